/- Texts that were built one behind the other, joined; what RestStates does not reach is left out. -/
import Derived.Test.YtbcacebifpagpagGreatK2RestStates
import Derived.Laws.ResultCell
import Derived.Lib.SliceRun
set_option maxHeartbeats 8000000
set_option maxRecDepth 100000
namespace Go.Proofs.YtbcacebifpagpagGreat
open _root_.Go.Proofs.Tryz
open Go.RowKit
set_option linter.unusedVariables false
theorem Mm{z:Nat->Hd}{h:Hd}(f:gx h=true):∀n,aw n (cz z)=false->∃i,P6 n z h i
 | 0,_=>⟨0,Nat.le_refl _,λq d=>absurd d (Qzq _),λq _ d=>absurd d (Qzq _)⟩
 | n+1,hr=>by
  obtain⟨i,b⟩:=Mm f n (Gl hr);have j:=b.le;by_cases hi:i=n
  .by_cases hc:l9 (z n) h<0
   .exact⟨n+1,Nat.le_refl _,λq d=>by
     by_cases c:q=n
     .subst c;exact hc
     exact b.lo q (by omega),λq e g=>by omega⟩
   refine⟨n,by omega,λq d=>b.lo q (by omega),λq e g => ?_⟩;have:q=n:=by omega
   subst this;omega
  refine⟨i,by omega,b.lo,λq e g => ?_⟩;by_cases c:q=n
  .subst c;have a:=b.hi i nlr (by omega);have l:=(Ak (ca hr i (by omega)) f).1;have m:=(Ak (ca hr q (by omega)) f).1;have k:=mp hr i q (by omega) (by omega);omega
  exact b.hi q e (by omega)
theorem Nt{n:Nat}{z:Nat->Hd}{h:Hd}(c:aw n (cz z)=false)(e:gx h=true):
  jc n z h<=n/\(∀j,j<jc n z h->ba (z j)<ba h)/\(∀j,jc n z h<=j->j<n->ba h<=ba (z j)):=by
 obtain⟨i,a⟩:=Mm e n c;rw[N6 a];have f:=a.le;refine⟨a.le,λj d => ?_,λj d b => ?_⟩
 .have:=a.lo j d;have:=(Ak (ca c j (by omega)) e).1;omega
 have:=a.hi j d b;have:=(Ak (ca c j b) e).1;omega
theorem H9{x y:Hd}(hx:gx x=true)(c:gx y=true)(h:ba x=ba y):be x y.o y.l y.b=true:=by
 have a:=cx hx;have b:=cx c;unfold ba at h;have d:x.o=y.o:=by omega
 have f:x.l=y.l:=by omega
 have e:x.b=y.b:=by omega
 simp[be,d,f,e]
theorem Gk{n:Nat}{z:Nat->Hd}(c:∀i,i<n->gx (z i)=true)(hs:∀i,i+1<n->ba (z i)<ba (z (i+1))):aw n (cz z)=false:=by
 rw[<-Qh];refine ct λj b => ?_;unfold xz;rw[c j b];by_cases a:0<j
 .have:=hs (j-1) (by omega);rw[show j-1+1=j by omega] at this;simp only[Bool.not_true,Bool.false_or,Bool.and_eq_false_imp,decide_eq_true_eq,decide_eq_false_iff_not];intro _;omega
 simp[a]
theorem np{n k:Nat}{z:Nat->Hd}{o l b:Int}(d:aw n (cz z)=false)(a:k<n)(c:be (z k) o l b=true):keptV n z o l b=(z k).n/\jg n z o l b=k:=by
 have lo:∀j,j<k->be (z j) o l b=false:=λj e=>by
  cases f:be (z j) o l b
  .rfl
  have:=F6 f c;have:=mp d j k e a;omega
 exact⟨mg a lo c,Fs a lo c⟩
theorem S8{n:Nat}{z:Nat->Hd}{o l b:Int}(c:aw n (cz z)=false)(e:keptV n z o l b=0):∀j,j<n->be (z j) o l b=false:=by
 rcases qz n z o l b with h|⟨k,a,d,f⟩
 .exact h
 rw[mg a d f] at e;have:=(cx (ca c k a)).2.2.2;omega
theorem Cs{z:Nat->Hd}{i j:Nat}{h:Hd}(a:j<i):lw z i h j=z j:=by unfold lw;rw[if_pos a]
theorem Cp{z:Nat->Hd}{i:Nat}{h:Hd}:lw z i h i=h:=by unfold lw;rw[if_neg (by omega),if_pos rfl]
theorem Cq{z:Nat->Hd}{i j:Nat}{h:Hd}(a:i<j):lw z i h j=z (j-1):=by unfold lw;rw[if_neg (by omega),if_neg (by omega)]
theorem Cu{z:Nat->Hd}{i:Nat}{h:Hd}:qu z i h i=h:=if_pos rfl
theorem A7{z:Nat->Hd}{i j:Nat}{h:Hd}(a:¬j=i):qu z i h j=z j:=if_neg a
theorem Ut{x y:Hd}{o l b:Int}(c:be x y.o y.l y.b=true):be x o l b=be y o l b:=by
 have a:=fh c;unfold be;rw[a.1,a.2.1,a.2.2]
theorem aah{n:Nat}{z:Nat->Hd}{h:Hd}(d:aw n (cz z)=false)(t:gx h=true)(v:keptV n z h.o h.l h.b=0):
  aw (n+1) (cz (lw z (jc n z h) h))=false/\(∀o l b,keptV (n+1) (lw z (jc n z h) h) o l b=keptV n z o l b+if be h o l b then h.n else 0) /\
   jg (n+1) (lw z (jc n z h) h) h.o h.l h.b=jc n z h:=by
 obtain⟨B,y,u⟩:=Nt d t;have no:=S8 d v
 generalize jc n z h=p at B y u ⊢
 have hs:∀j,p<=j->j<n->ba h<ba (z j):=λj w f=>by
  have a:=u j w f;have b:¬ba (z j)=ba h:=λe=>by
   have:=H9 (ca d j f) t e;rw[no j f] at this;cases this
  omega
 have g:aw (n+1) (cz (lw z p h))=false:=by
  refine Gk (λi hi => ?_) (λi hi => ?_)
  .rcases Nat.lt_trichotomy i p with c|c|c
   .rw[Cs c];exact ca d i (by omega)
   .subst c;rw[Cp];exact t
   rw[Cq c];exact ca d (i-1) (by omega)
  rcases Nat.lt_trichotomy i p with c|c|c
  .rw[Cs c];by_cases D:i+1=p
   .subst D;rw[Cp];exact y i (by omega)
   rw[Cs (by omega)];exact Ae d i (by omega)
  .subst c;rw[Cp,Cq (by omega)];exact hs _ (by omega) (by omega)
  rw[Cq c,Cq (by omega)];have:=Ae d (i-1) (by omega);rw[show i-1+1=i+1-1 by omega] at this;exact this
 have q:=np (o:=h.o) (l:=h.l) (b:=h.b) g (show p<n+1 by omega) (by rw[Cp];simp[be]);refine⟨g,λo l b => ?_,q.2⟩;cases x:be h o l b;rotate_left
 .have a:=fh x;rw[<-a.1,<-a.2.1,<-a.2.2,v,q.1,Cp];simp
 simp only[Bool.false_eq_true,if_false,Int.add_zero];rcases qz n z o l b with s|⟨k,E,A,r⟩
 .rw[kc s];refine kc λj w => ?_;rcases Nat.lt_trichotomy j p with c|c|c
  .rw[Cs c];exact s j (by omega)
  .subst c;rw[Cp];exact x
  rw[Cq c];exact s (j-1) (by omega)
 rw[mg E A r];by_cases m:k<p
 .have:=(np (o:=o) (l:=l) (b:=b) g (show k<n+1 by omega) (by rw[Cs m];exact r)).1;rw[this,Cs m]
 have e:lw z p h (k+1)=z k:=by rw[Cq (by omega),Nat.add_sub_cancel]
 have:=(np (o:=o) (l:=l) (b:=b) g (show k+1<n+1 by omega) (by rw[e];exact r)).1;rw[this,e]
theorem aai{n:Nat}{z:Nat->Hd}{h:Hd}(m:aw n (cz z)=false)(J:gx h=true)(G:¬keptV n z h.o h.l h.b=0)(T:keptV n z h.o h.l h.b+h.n<=200):
  aw n (cz (qu z (jc n z h) ⟨h.o,h.l,h.b,keptV n z h.o h.l h.b+h.n⟩))=false/\(∀o l b,keptV n (qu z (jc n z h) ⟨h.o,h.l,h.b,keptV n z h.o h.l h.b+h.n⟩) o l b=keptV n z o l b+if be h o l b then h.n else 0) /\
   jg n (qu z (jc n z h) ⟨h.o,h.l,h.b,keptV n z h.o h.l h.b+h.n⟩) h.o h.l h.b=jc n z h/\jc n z h<n/\be (z (jc n z h)) h.o h.l h.b=true/\jg n z h.o h.l h.b=jc n z h:=by
 obtain⟨S,P,F⟩:=Nt m J;obtain⟨s,g,y,A,M⟩:=rp m G;have f:ba (z (jg n z h.o h.l h.b))=ba h:=Dy (n:=h.n) g;have D:jg n z h.o h.l h.b=jc n z h:=by
  rcases Nat.lt_trichotomy (jg n z h.o h.l h.b) (jc n z h) with c|c|c
  .have:=P _ c;omega
  .exact c
  have:=A _ c;have:=F _ nlr (by omega);omega
 rw[D] at s g y A M f ⊢
 generalize jc n z h=p at S P F s g y A M f D ⊢
 generalize hK:keptV n z h.o h.l h.b=K at G T y ⊢
 have V:=cx (ca m p s);have W:=cx J;have v:ba ⟨h.o,h.l,h.b,K+h.n⟩=ba (z p):=by rw[f];rfl
 have x:aw n (cz (qu z p ⟨h.o,h.l,h.b,K+h.n⟩))=false:=by
  refine Gk (λi hi => ?_) (λi hi => ?_)
  .by_cases d:i=p
   .subst d;rw[Cu];simp only[gx,Xxx];exact⟨⟨⟨bq (by omega),bq (by omega)⟩,bq (by omega)⟩,bq (by show 1<=K+h.n/\K+h.n<=200;omega)⟩
   rw[A7 d];exact ca m i hi
  have r:=Ae m i hi;by_cases d:i=p
  .subst d;rw[Cu,A7 (by omega),v];exact r
  rw[A7 d];by_cases q:i+1=p
  .rw[q,Cu,v,<-q];exact r
  rw[A7 q];exact r
 have w:=np (o:=h.o) (l:=h.l) (b:=h.b) x s (by rw[Cu];simp[be]);refine⟨x,λo l b => ?_,w.2,s,g,rfl⟩;cases B:be h o l b
 .simp only[Bool.false_eq_true,if_false,Int.add_zero];have E:be (z p) o l b=false:=by rw[Ut g];exact B
  rcases qz n z o l b with H|⟨k,L,Q,t⟩
  .rw[kc H];refine kc λj U => ?_;by_cases d:j=p
   .subst d;rw[Cu];exact B
   rw[A7 d];exact H j U
  rw[mg L Q t];have u:¬k=p:=λe=>by subst e;rw[E] at t;cases t
  have:=(np (o:=o) (l:=l) (b:=b) x L (by rw[A7 u];exact t)).1;rw[this,A7 u]
 have a:=fh B;rw[<-a.1,<-a.2.1,<-a.2.2,hK,w.1,Cu];simp
theorem An{n m:Nat}{z y:Nat->Hd}(d:aw n (cz z)=false)(s:aw m (cz y)=false)(v:∀o l b,keptV n z o l b=keptV m y o l b)(j:Nat)
  (u:∀i,i<j->i<m->i<n/\z i=y i) (h:j<n):j<m/\ba (y j)<=ba (z j):=by
 have a:=(np d h (uv (z j))).1;have f:=(cx (ca d j h)).2.2.2;rw[v] at a;obtain⟨r,p,t,q,w⟩:=rp (o:=(z j).o) (l:=(z j).l) (b:=(z j).b) s (by omega)
 generalize jg m y (z j).o (z j).l (z j).b=k at r p t q w
 have g:ba (y k)=ba (z j):=Dy (n:=(z j).n) p;have x:j<=k:=by
  rcases Nat.lt_or_ge k j with c|c
  .obtain⟨_,e⟩:=u k c r;have:=mp d k j c h;rw[e] at this;omega
  exact c
 refine⟨by omega,?_⟩;by_cases e:j=k
 .rw[e] at g ⊢;omega
 have:=q j (by omega);omega
theorem abm{n m:Nat}{z y:Nat->Hd}(g:aw n (cz z)=false)(f:aw m (cz y)=false)(p:∀o l b,keptV n z o l b=keptV m y o l b):
  ∀k j,j<k->(j<n->j<m/\z j=y j)/\(j<m->j<n/\z j=y j):=by
 intro k
 induction k with
 | zero=>intro j A;omega
 | succ k ih =>
  intro j A;by_cases v:j<k
  .exact ih j v
  have e:j=k:=by omega
  subst e;have q:j<n->j<m->z j=y j:=λs t=>by
   have a:=(An g f p j (λi hi d=>(ih i hi).2 d) s).2;have b:=(An f g (λo l b=>(p o l b).symm) j (λi hi d=>⟨((ih i hi).1 d).1,((ih i hi).1 d).2.symm⟩) t).2;have u:=H9 (ca g j s) (ca f j t) (by omega);have r:=(np g s u).1;have B:=(np f t (uv (y j))).1;rw[p,B] at r;have c:=fh u;cases w:z j;cases x:y j;rw[w,x] at c r;simp only at c r;simp[c,r]
  exact⟨λh=>⟨(An g f p j (λi hi d=>(ih i hi).2 d) h).1,q h (An g f p j (λi hi d=>(ih i hi).2 d) h).1⟩,
   λh=>⟨(An f g (λo l b=>(p o l b).symm) j (λi hi d=>⟨((ih i hi).1 d).1,((ih i hi).1 d).2.symm⟩) h).1,q (An f g (λo l b=>(p o l b).symm) j (λi hi d=>⟨((ih i hi).1 d).1,((ih i hi).1 d).2.symm⟩) h).1 h⟩⟩
theorem Xr{n m:Nat}{z y:Nat->Hd}(d:aw n (cz z)=false)(f:aw m (cz y)=false)(a:∀o l b,keptV n z o l b=keptV m y o l b):n=m/\∀j,j<n->z j=y j:=by
 have h:=abm d f a;refine⟨?_,λj e=>((h (j+1) j (by omega)).1 e).2⟩;rcases Nat.lt_trichotomy n m with c|c|c
 .have:=((h (n+1) n (by omega)).2 c).1;omega
 .exact c
 have:=((h (m+1) m (by omega)).1 c).1;omega
theorem Yl{n:Nat}{z:Nat->Hd}{h:Hd}(g:aw n (cz z)=false)(f:gx h=true)(i:keptV n z h.o h.l h.b+h.n<=200):
  aw (pn n z h) (cz (xy n z h))=false/\∀o l b,keptV (pn n z h) (xy n z h) o l b=keptV n z o l b+if be h o l b then h.n else 0:=by
 by_cases c:keptV n z h.o h.l h.b=0
 .have d:pn n z h=n+1:=if_pos c;have e:xy n z h=lw z (jc n z h) h:=if_pos c;rw[d,e];obtain⟨a,b,_⟩:=aah g f c;exact⟨a,b⟩
 have d:pn n z h=n:=if_neg c;have e:xy n z h=qu z (jc n z h) ⟨h.o,h.l,h.b,keptV n z h.o h.l h.b+h.n⟩:=if_neg c;rw[d,e];obtain⟨a,b,_⟩:=aai g f c i;exact⟨a,b⟩
theorem V6{n:Nat}{z:Nat->Hd}{h:Hd}(e:addE n z h=0):aw n (cz z)=false/\gx h=true/\keptV n z h.o h.l h.b+h.n<=200:=by
 unfold addE at e;by_cases a:gw n z=0
 .rw[if_pos a] at e;cases c:gx h
  .rw[c] at e;simp at e
  rw[c] at e;simp only[if_true] at e;by_cases d:200<keptV n z h.o h.l h.b+h.n
  .rw[if_pos d] at e;omega
  exact⟨Eb a,rfl,by omega⟩
 rw[if_neg a] at e;exact absurd e a
theorem zz{n:Nat}{z:Nat->Hd}(h:aw n (cz z)=false):gw n z=0:=by unfold gw;rw[h];rfl
theorem S4{n:Nat}{z:Nat->Hd}{h:Hd}(c:aw n (cz z)=false)(a:gx h=true):addE n z h=if 200<keptV n z h.o h.l h.b+h.n then 3 else 0:=by
 unfold addE;rw[zz c,a]
 rfl
theorem Fi{z y:Nat->Hd}{n:Nat}(h:∀j,j<n->z j=y j):aw n (cz z)=aw n (cz y):=by
 have e:∀j,j<n->cz z j=cz y j:=λj a=>by
  unfold cz;rw[h j a];by_cases d:0<j
  .rw[h (j-1) (by omega)]
  simp[d]
 cases b:aw n (cz y)
 .exact ct λj a=>by rw[e j a];exact di b j a
 cases c:aw n (cz z)
 .have:aw n (cz y)=false:=ct λj a=>by rw[<-e j a];exact di c j a
  rw[this] at b;cases b
 rfl
theorem yf{z y:Nat->Hd}{n:Nat}(h:∀j,j<n->z j=y j)(o l b:Int):keptV n z o l b=keptV n y o l b:=by
 rcases qz n y o l b with e|⟨k,a,d,f⟩
 .rw[kc e,kc λj c=>by rw[h j c];exact e j c]
 rw[mg a d f,mg a (λj c=>by rw[h j (by omega)];exact d j c) (by rw[h k a];exact f),h k a]
theorem Be{z y:Nat->Hd}(o l:Int):∀{n:Nat},(∀j,j<n->z j=y j)->keptS z o l n=keptS y o l n
 | 0,_=>rfl
 | n+1,h=>by
  simp only[keptS];rw[Be o l (n:=n) λj a=>h j (by omega),h n (by omega)]
theorem Dh.right{n:Nat}{z:Nat->Hd}{h:Hd}{x:Hs}(hx:Dh n z h x)(e:addE n z h=0):
  aw x.n (cz x.z)=false/\∀o l b,keptV x.n x.z o l b=keptV n z o l b+if be h o l b then h.n else 0:=by
 obtain⟨a,b,c⟩:=V6 e;obtain⟨r,k⟩:=Yl a b c;have f:x.n=pn n z h:=by have:=hx.1;rw[if_pos e] at this;exact this
 have d:=hx.2;rw[f] at d ⊢;exact⟨by rw[Fi d];exact r,λo l b=>by rw[yf d];exact k o l b⟩
theorem Dh.none{n:Nat}{z:Nat->Hd}{h:Hd}{x:Hs}(hx:Dh n z h x)(e:¬addE n z h=0):x.n=0:=by
 have:=hx.1;rw[if_neg e] at this;exact this
theorem j9{p:Pl}{s:St}(r:au p s):ag p s=0:=by
 have f:=r.fm;have d:fs s=false:=by
  unfold fs;have a:decide (4<s.os.n)=false:=decide_eq_false (by have:=f.os4;omega);have b:decide (8<s.ms.n)=false:=decide_eq_false (by have:=f.ms8;omega);have m:aw s.os.n (λi=>p9 (s.os.z i))=false:=ct λi hi=>by
   unfold p9;rw[bq (by have:=f.lns i hi;omega)]
   rfl
  rw[a,b,m]
  rfl
 have g:jf p s=false:=ct λi hi=>by
  unfold lp;rw[bq (f.kind i hi),ct λj c=>f.line i hi j c]
  rfl
 have e:gj p s=false:=by
  unfold gj;rw[zz f.hold,ct f.home]
  rfl
 have h:j8 p s=false:=ct f.move;have k:∀{r:Rw} {low:Int},r.n=p.ns->(∀j,j<p.ns->low<=r.z j/\r.z j<=1048576)->lr p r low=false:=λ{r low} a b=>by
  unfold lr;rw[Xxq];refine⟨by simp[a],ct λj c => ?_⟩;rw[bq (b j (by omega))]
  rfl
 have l:fj p s=false:=by
  unfold fj;rw[k f.sin f.sib,k f.son f.sob,k f.sfn f.sfb]
  rfl
 rw[Af f.sh0 d g e h l,show kw p s=false from ct r.goods,show je s=false from ct r.orders]
 rfl
theorem pe{p:Pl}{s:St}{h:Hd}(d:0<=h.o/\h.o.toNat<s.os.n)(a:0<=h.l/\h.l.toNat<(s.os.z h.o.toNat).ls.n)(c:0<=h.b/\h.b<p.nb):i6 p s h=false:=by
 unfold i6;rw[bq (by omega),bq (by omega),bq (by omega)]
 rfl
theorem qy{x s:St}{b g:Int}:∀{k:Nat},(∀j,j<k->x.hs.z j=s.hs.z j)->(∀j,j<k->jo x (s.hs.z j)=jo s (s.hs.z j))->bw x b g k=bw s b g k
 | 0,_,_=>rfl
 | k+1,h1,h2=>by
  simp only[bw];rw[qy (k:=k) (λj a=>h1 j (by omega)) (λj a=>h2 j (by omega)),h1 k (by omega),h2 k (by omega)]
theorem ox{x s:St}{b g:Int}:∀{k:Nat},(∀j,j<k->x.ms.z j=s.ms.z j)->az x b g k=az s b g k
 | 0,_=>rfl
 | k+1,h1=>by
  simp only[az];rw[ox (k:=k) (λj a=>h1 j (by omega)),h1 k (by omega)]
theorem It{p:Pl}{x s:St}{b:Int}:∀{k:Nat},(∀j,j<k->x.ms.z j=s.ms.z j)->jj p x b k=jj p s b k
 | 0,_=>rfl
 | k+1,h1=>by
  simp only[jj];rw[It (k:=k) (λj a=>h1 j (by omega)),h1 k (by omega)]
section
variable {p:Pl} {x t:St}
theorem ae.held(h:ae x t)(f:cv p t)(b g:Int):bw x b g x.hs.n=bw t b g t.hs.n:=by
 rw[h.hs.1];refine qy (λj a=>h.hs.2 j (by rw[h.hs.1];exact a)) (λj a => ?_);obtain⟨c,d,-⟩:=iq (f.home j a);unfold jo;have o:=h.os.2 (t.hs.z j).o.toNat (by rw[h.os.1];exact c.2);rw[o.2.2 (t.hs.z j).l.toNat (by rw[o.2.1];exact d.2)]
theorem ae.from(h:ae x t)(b g:Int):az x b g x.ms.n=az t b g t.ms.n:=by
 rw[h.ms.1];exact ox λj a=>h.ms.2 j (by rw[h.ms.1];exact a)
theorem ae.num(h:ae x t)(f:cv p t){b g:Nat}(c:b<p.nb)(d:g<p.ns):(x.on.r b).z g=(t.on.r b).z g:=by
 have a:b<t.on.n:=by rw[f.sh.n];exact c
 have r:=h.on.2 b (by rw[h.on.1];exact a);exact r.2 g (by rw[r.1,f.sh.len b a];exact d)
theorem ae.avail(h:ae x t)(f:cv p t){b g:Nat}(a:b<p.nb)(c:g<p.ns):ar x b g=ar t b g:=by
 unfold ar;rw[h.num f a c,h.held f,h.from]
theorem ae.free(h:ae x t)(f:cv p t){b:Nat}(c:b<p.nb):fw p x b=fw p t b:=by
 unfold fw;have e:ey (x.on.r b).z p.zs p.ns=ey (t.on.r b).z p.zs p.ns:=Dg λj a=>h.num f c a;rw[e,h.ms.1,It λj a=>h.ms.2 j (by rw[h.ms.1];exact a)]
theorem ae.formed(h:ae x t)(f:cv p t):cv p x:=by
 have k:=(uq f.sh0).1;have hs:um p x.on:=⟨f.sh.pl,h.on.1.trans f.sh.n,λi hi=>(h.on.2 i hi).1.trans (f.sh.len i (by rw[<-h.on.1];exact hi)),λi hi j a=>by
  have b:i<t.on.n:=by rw[<-h.on.1];exact hi
  rw[h.num f (by rw[<-f.sh.n];exact b) a];exact f.sh.num i b j a⟩
 have o:∀i,i<x.os.n->i<t.os.n:=λi hi=>by rw[<-h.os.1];exact hi
 refine⟨hs,wi k hs,by rw[h.os.1];exact f.os4,by rw[h.ms.1];exact f.ms8,λi hi=>by rw[(h.os.2 i hi).2.1];exact f.lns i (o i hi),λi hi=>by rw[(h.os.2 i hi).1];exact f.kind i (o i hi),λi hi j a => ?_,?_,λi hi => ?_,λi hi => ?_,h.si.1.trans f.sin,h.so.1.trans f.son,h.sf.1.trans f.sfn,λj a => ?_,λj a => ?_,λj a => ?_⟩
 .rw[(h.os.2 i hi).2.2 j a];exact f.line i (o i hi) j (by rw[<-(h.os.2 i hi).2.1];exact a)
 .rw[h.hs.1,Fi λj a=>h.hs.2 j (by rw[h.hs.1];exact a)];exact f.hold
 .have b:i<t.hs.n:=by rw[<-h.hs.1];exact hi
  obtain⟨d,e,g⟩:=iq (f.home i b);rw[h.hs.2 i hi];have c:(t.hs.z i).o.toNat<x.os.n:=by rw[h.os.1];exact d.2
  exact pe ⟨d.1,c⟩ ⟨e.1,by rw[(h.os.2 _ c).2.1];exact e.2⟩ g
 .rw[h.ms.2 i hi];exact f.move i (by rw[<-h.ms.1];exact hi)
 .rw[h.si.2 j (by rw[h.si.1,f.sin];exact a)];exact f.sib j a
 .rw[h.so.2 j (by rw[h.so.1,f.son];exact a)];exact f.sob j a
 rw[h.sf.2 j (by rw[h.sf.1,f.sfn];exact a)];exact f.sfb j a
theorem ae.right(h:ae x t)(r:au p t):au p x:=by
 have f:=r.fm;refine⟨h.formed f,λg a => ?_,λi hi => ?_⟩
 .have:=r.goods g a;rw[pu] at this ⊢;rw[<-this]
  congr 1
  .have e:cu (λi=>(x.on.r i).z g) x.on.n=cu (λi=>(t.on.r i).z g) t.on.n:=by
    rw[h.on.1];exact re λi hi=>h.num f (by rw[<-f.sh.n];exact hi) a
   rw[e,h.si.2 g (by rw[h.si.1,f.sin];exact a),h.so.2 g (by rw[h.so.1,f.son];exact a),h.sf.2 g (by rw[h.sf.1,f.sfn];exact a)]
  exact nz λb o=>by rw[h.avail f o a]
 have k:i<t.os.n:=by rw[<-h.os.1];exact hi
 have:=r.orders i k;rw[<-this];obtain⟨m,d,l⟩:=h.os.2 i hi;unfold cf;rw[m,d]
 congr 1
 .congr 2
  exact nz λj c=>by rw[l j (by rw[d];exact c)]
 refine nz λj c => ?_;rw[l j (by rw[d];exact c),h.hs.1,Be _ _ λj c=>h.hs.2 j (by rw[h.hs.1];exact c)]
end
open Go.Shelf
def frL(p:Pl)(f:Bool)(k:Nat):List Int:=((List.range k).filter (λi=>(p.zb i).front==f)).map Int.ofNat
theorem ut{p:Pl}{f:Bool}{k:Nat}(h:(p.zb k).front=f):frL p f (k+1)=frL p f k++[(k:Int)]:=by simp[frL,List.range_succ,h]
theorem vt{p:Pl}{f:Bool}{k:Nat}(h:¬(p.zb k).front=f):frL p f (k+1)=frL p f k:=by simp[frL,List.range_succ,h]
theorem Jb(p:Pl)(f:Bool)(k:Nat):(frL p f k).length<=k:=by
 unfold frL;rw[List.length_map];exact Qzx (List.length_filter_le _ _) (by simp)
def fu(p:Pl):List Int:=frL p true p.nb++frL p false p.nb
theorem Rw.ofOwns{w:World}{base:Nat}{v:Value}{a:List Int}(h:w.ownsRow base 3 1 v a.length (a.map (Value.int .i64))):∃r:Rw,v=r.val/\r.At w/\r.n=a.length/\∀j,j<r.n->r.z j=a.getD j 0:=by
 by_cases k:v = .slice Option.none 0 0
 .subst k;have f:a.length=0:=by
   rcases h.2 with⟨_,f⟩|⟨t,q,o,e,_⟩
   .exact f
   cases e
  exact⟨⟨Option.none,0,0,λ_=>0⟩,rfl,⟨Nat.le_refl _,Qxz _,λi hi=>absurd hi (Qzq _)⟩,f.symm,λj m=>absurd m (Qzq _)⟩
 obtain⟨g,c,rfl,l,p,s,d⟩:=Blk.ofOwns h k;rw[Nat.mul_one] at d;refine⟨⟨some ⟨g,0,Option.none⟩,a.length,c,λj=>a.getD j 0⟩,rfl,⟨l,p,λi hi => ?_⟩,rfl,λj _=>rfl⟩;have b:i<a.length:=hi;refine⟨g,0,rfl,d.lt,?_⟩;have:=d.cell (j:=i) b;rw[Nat.zero_add,this];simp[List.getD,b]
theorem Qa(p:Pl)(w:World)(X:p.At w)(hn:p.nb<=6):
  Calls prog 156 #[p.val] w λe w'=>∃v,e = .returned v/\w'.ownsRow w.heap.size 3 1 v (fu p).length ((fu p).map (Value.int .i64))/\Below w.heap.size w w':=by
 have leb:=X.leb;have capb:=X.capb;unfold maxLen at capb;have F:∃a,w.alloc (.cells #[.slice p.ab p.nb p.cb,.slice p.sa p.ns p.cs] 25)=a/\Below w.heap.size w a/\a.heap.size=w.heap.size+1/\∀t,Below a.heap.size a t->t.cell? ⟨w.heap.size,0,Option.none⟩=some (.slice p.ab p.nb p.cb)/\w.heap.size<t.heap.size :=
  ⟨_,rfl,(Below.refl w.heap.size w).alloc nlr _,by simp,λt h=>⟨(h.cell (p:=⟨w.heap.size,0,Option.none⟩) (by simp)).trans (by simp),by have:=h.size;simp at this;omega⟩⟩
 obtain⟨a,hW,z,E,A⟩:=F;have HW:Hid (w.alloc (.cells #[.slice p.ab p.nb p.cb,.slice p.sa p.ns p.cs] 25)=a):=hW;have Y:=hid A;have HP:Hid (∀t,Below a.heap.size a t->p.At t):=λt h=>(X.below z).below h;have HZ:=hid E;clear hW A E;obtain⟨i1,l,S,T,U⟩:=info_parts Ex;simp only[Pl.val];go_enter func156,ntmps156;go_wp2_with fail;rw[HW.out]
 go_loopw [3,4] (λv i M=>∃k:Nat,k<=p.nb/\i = .int .i64 k/\M.ownsRow a.heap.size 3 1 v (frL p true k).length ((frL p true k).map (Value.int .i64))/\Below a.heap.size a M) (λ_ i _=>p.nb-(intOf i).toNat)
 case atStart=>exact⟨0,Qxz _,rfl,World.ownsRow_nil _ _ _ _,Below.refl _ _⟩
 obtain⟨k,hk,rfl,G,c⟩:=hrel;obtain⟨Q,K⟩:=Y.out _ c;have n:=hid G;clear G;by_cases B:k<p.nb
 .obtain⟨b,o,x,hb,H,z1,z2,z3⟩:=(HP.out _ c).bins k B;rw[x] at Q;clear x;have m1:(0:Int)<=(k:Int):=by omega
  cases r:(p.zb k).front
  .rw[r] at H;go_wp2_with fail;go_roundw
   case rel=>exact⟨k+1,by omega,by go_num,by rw[vt (by rw[r];decide)];exact n.out,c⟩
   case measure=>simp[intOf];omega
  rw[r] at H;have ae:=Jb p true k;go_wp2_with(at_builtin;refine wpList_append_own _ rfl (.tmp 19) (.tmp 21) 23 rfl a.heap.size 3 i1 (.int .i64 0) 1 8 underlying23 l S T U rfl (by decide) _ _ _ rfl (n.out.alloc _) ⟨wr.heap.size,0,Option.none⟩ 1 1 [.int .i64 k] rfl rfl ?c1 ?c2 ?c3 ?c4 ?c5 ?_)
  case c1 =>
   intro j u l
   match j,l with
   | 0,l=>simp at l;subst l;simp[Addr.add]
  case c2=>intro u L;simp at L;subst L;rfl
  case c3=>unfold maxLen;omega
  case c4=>omega
  case c5=>have:=c.size;simp;omega
  intro J y f d s;have m:=n.out.lt;have P:Below a.heap.size a y:=(c.alloc (by have:=c.size;omega) _).grown d (by have:=c.size;simp;omega) (λq V=>(m q V).1);have W:Hid (y.ownsRow a.heap.size 3 1 J (frL p true (k+1)).length ((frL p true (k+1)).map (Value.int .i64))):=by
   show y.ownsRow a.heap.size 3 1 J (frL p true (k+1)).length ((frL p true (k+1)).map (Value.int .i64));rw[ut r]
   simpa using f
  clear f d s m;go_wp2_with fail;go_roundw
  case rel=>exact⟨k+1,by omega,by go_num,W.out,P⟩
  case measure=>simp[intOf];omega
 have D:k=p.nb:=by omega
 subst D;go_wp2_with fail
 go_loopw [3,5] (λv i M=>∃k:Nat,k<=p.nb/\i = .int .i64 k/\M.ownsRow a.heap.size 3 1 v (frL p true p.nb++frL p false k).length ((frL p true p.nb++frL p false k).map (Value.int .i64))/\Below a.heap.size a M) (λ_ i _=>p.nb-(intOf i).toNat)
 case atStart=>exact⟨0,Qxz _,rfl,by simpa[frL] using n.out,c⟩
 clear n c Q K hk B;obtain⟨k,hk,rfl,G,c⟩:=hrel;obtain⟨Q,K⟩:=Y.out _ c;have n:=hid G;clear G;by_cases B:k<p.nb;rotate_left
 .go_wp2_with fail;go_ret;have D:k=p.nb:=by omega
  subst D;exact⟨_,rfl,⟨n.out.1,n.out.2.imp_right λ⟨g,cap,cur,h1,h2,h3⟩=>⟨g,cap,cur,h1,Qzx z.size h2,h3⟩⟩,z.trans (c.mono z.size)⟩
 obtain⟨b,o,x,hb,H,z1,z2,z3⟩:=(HP.out _ c).bins k B;rw[x] at Q;clear x;have m1:(0:Int)<=(k:Int):=by omega
 cases r:(p.zb k).front;rotate_left
 .rw[r] at H;go_wp2_with fail;go_roundw
  case rel=>exact⟨k+1,by omega,by go_num,by rw[vt (by rw[r];decide)];exact n.out,c⟩
  case measure=>simp[intOf];omega
 rw[r] at H;have ae:=Jb p false k;have al:=Jb p true p.nb;go_wp2_with(at_builtin;refine wpList_append_own _ rfl (.tmp 37) (.tmp 39) 23 rfl a.heap.size 3 i1 (.int .i64 0) 1 8 underlying23 l S T U rfl (by decide) _ _ _ rfl (n.out.alloc _) ⟨wr.heap.size,0,Option.none⟩ 1 1 [.int .i64 k] rfl rfl ?c1 ?c2 ?c3 ?c4 ?c5 ?_)
 case c1 =>
  intro j u l
  match j,l with
  | 0,l=>simp at l;subst l;simp[Addr.add]
 case c2=>intro u L;simp at L;subst L;rfl
 case c3=>rw[List.length_append];unfold maxLen;omega
 case c4=>rw[List.length_append];omega
 case c5=>have:=c.size;simp;omega
 intro J y f d s;have m:=n.out.lt;have P:Below a.heap.size a y:=(c.alloc (by have:=c.size;omega) _).grown d (by have:=c.size;simp;omega) (λq V=>(m q V).1);have W:Hid (y.ownsRow a.heap.size 3 1 J (frL p true p.nb++frL p false (k+1)).length ((frL p true p.nb++frL p false (k+1)).map (Value.int .i64))):=by
  show y.ownsRow a.heap.size 3 1 J (frL p true p.nb++frL p false (k+1)).length ((frL p true p.nb++frL p false (k+1)).map (Value.int .i64));rw[ut r]
  simpa[Nat.add_assoc] using f
 clear f d s m;go_wp2_with fail;go_roundw
 case rel=>exact⟨k+1,by omega,by go_num,W.out,P⟩
 case measure=>simp[intOf];omega
def Ru(p:Pl)(x:Int):Bool:=(p.zb x.toNat).front
theorem xc{p:Pl}{f:Bool}{k:Nat}{x:Int}(h:x∈frL p f k):0<=x/\x<k/\Ru p x=f:=by
 simp only[frL,List.mem_map,List.mem_filter,List.mem_range,beq_iff_eq] at h;obtain⟨i,⟨hi,a⟩,rfl⟩:=h;exact⟨Int.natCast_nonneg _,by simp only[Int.ofNat_eq_natCast];omega,a⟩
theorem L9(p:Pl)(f:Bool):∀k,(frL p f k).Pairwise (· < ·)
 | 0=>by simp[frL]
 | k+1=>by
  by_cases h:(p.zb k).front=f
  .rw[ut h,List.pairwise_append];refine⟨L9 p f k,List.pairwise_singleton _ _,λx hx y a => ?_⟩;rw[List.mem_singleton] at a;have:=(xc hx).2.1;omega
  rw[vt h];exact L9 p f k
theorem Nk(p:Pl):∀k,(frL p true k).length+(frL p false k).length=k
 | 0=>by simp[frL]
 | k+1=>by
  have a:=Nk p k;cases h:(p.zb k).front
  .rw[ut h,vt (by rw[h];decide),List.length_append,List.length_singleton];omega
  rw[ut h,vt (by rw[h];decide),List.length_append,List.length_singleton];omega
theorem Tl(p:Pl):(fu p).length=p.nb:=by
 unfold fu;rw[List.length_append,Nk]
theorem Fa{p:Pl}{x:Int}(h:x∈fu p):0<=x/\x<p.nb:=by
 unfold fu at h;rw[List.mem_append] at h;rcases h with h|h
 .exact⟨(xc h).1,(xc h).2.1⟩
 exact⟨(xc h).1,(xc h).2.1⟩
theorem Ry(p:Pl):(fu p).Pairwise (λx y=>¬x=y/\(Ru p y=true->Ru p x=true)/\(Ru p x=Ru p y->x<y)):=by
 unfold fu;rw[List.pairwise_append];refine⟨?_,?_,λx hx y c => ?_⟩
 .refine List.Pairwise.imp_of_mem ?_ (L9 p true p.nb);intro x y hx c h;exact⟨by omega,λ_=>(xc hx).2.2,λ_=>h⟩
 .refine List.Pairwise.imp_of_mem ?_ (L9 p false p.nb);intro x y hx c h;refine⟨by omega,λe => ?_,λ_=>h⟩;rw[(xc c).2.2] at e;cases e
 have a:=(xc hx).2.2;have b:=(xc c).2.2;refine⟨λe => ?_,λe=>a,λe => ?_⟩
 .rw[e,b] at a;cases a
 rw[a,b] at e;cases e
def Vo(p:Pl):List Int:=if iy p=0 then fu p else []
theorem Rx{p:Pl}(h:iy p=0):Vo p=fu p:=if_pos h
theorem aa0{p:Pl}(h:¬iy p=0):Vo p=[]:=if_neg h
theorem Za{A b:Nat}{w:World}{e:TypeId}{size:Nat}{v:Value}{n:Nat}{a:List Value}(h:w.ownsRow A e size v n a)(c:b<=A):w.ownsRow b e size v n a :=
 ⟨h.1,h.2.imp_right λ⟨g,cap,cur,h1,h2,h3⟩=>⟨g,cap,cur,h1,Qzx c h2,h3⟩⟩
open Go.Sort
def bj(s:St)(b g:Int):Nat->Int
 | 0=>0
 | k+1=>bj s b g k+(if (s.ms.z k).b=b/\(s.ms.z k).o=g then(s.ms.z k).n else 0)
theorem C0{s:St}{b g:Int}{k:Nat}(c:(s.ms.z k).b=b)(a:(s.ms.z k).o=g):bj s b g (k+1)=bj s b g k+(s.ms.z k).n:=by simp only[bj];rw[if_pos ⟨c,a⟩]
theorem ym{s:St}{b g:Int}{k:Nat}(h:¬((s.ms.z k).b=b/\(s.ms.z k).o=g)):bj s b g (k+1)=bj s b g k:=by simp only[bj];rw[if_neg h,Int.add_zero]
theorem lj{s:St}{b g:Int}:∀{n:Nat},(∀j,j<n->1<=(s.ms.z j).n/\(s.ms.z j).n<=200)->0<=bj s b g n/\bj s b g n<=200*n
 | 0,_=>by simp[bj]
 | n+1,h=>by
  have a:=lj (b:=b) (g:=g) (n:=n) λj c=>h j (by omega);have:=h n (by omega);simp only[bj]
  split<;>omega
theorem J7{z z' zs:Nat->Int}{m:Nat}{d:Int}:∀{n:Nat},(∀j,j<n->z' j=z j+if j=m then d else 0)->ey z' zs n=ey z zs n+if m<n then d*zs m else 0
 | 0,_=>by simp[ey]
 | n+1,h=>by
  simp only[ey];rw[J7 (m:=m) (d:=d) (n:=n) λj c=>h j (by omega),h n (by omega)];by_cases a:n=m
  .subst a;rw[if_pos rfl,if_neg (Nat.lt_irrefl n),if_pos (by omega),Int.add_mul];omega
  rw[if_neg a,Int.add_zero];by_cases b:m<n
  .rw[if_pos b,if_pos (by omega)];omega
  rw[if_neg b,if_neg (by omega)];omega
theorem Ng{p:Pl}{s:St}(f:cv p s)(b:Int):∀n,n<=s.ms.n->ey (λg=>bj s b g n) p.zs p.ns=jj p s b n
 | 0,_=>usedTo_zero' λj e=>rfl
 | n+1,hn=>by
  have i:=qn (f.move n (by omega));by_cases c:(s.ms.z n).b=b
  .rw[Mw c,<-Ng f b n (by omega),J7 (z:=λg=>bj s b g n) (m:=(s.ms.z n).o.toNat) (d:=(s.ms.z n).n) λj e => ?_,if_pos (by omega)];by_cases a:j=(s.ms.z n).o.toNat
   .rw[if_pos a];exact C0 c (by omega)
   rw[if_neg a,Int.add_zero];exact ym (λh=>a (by omega))
  rw[J6 c,<-Ng f b n (by omega)];exact Dg λj e=>ym (λh=>c h.1)
where
 usedTo_zero' {z zs:Nat->Int}:∀{n:Nat},(∀j,j<n->z j=0)->ey z zs n=0
  | 0,_=>rfl
  | n+1,h=>by simp only[ey];rw[usedTo_zero' (n:=n) λj hj=>h j (by omega),h n (by omega)];simp
theorem Tb{a b:Int}(c:0<=a/\a<=1600)(d:1<=b/\b<=9):0<=a*b/\a*b<=14400:=by
 obtain⟨e,a1⟩:=c;have:b=1\/b=2\/b=3\/b=4\/b=5\/b=6\/b=7\/b=8\/b=9:=by omega
 rcases this with rfl|rfl|rfl|rfl|rfl|rfl|rfl|rfl|rfl<;>omega
theorem My{z zs:Nat->Int}{n:Nat}(h:∀j,j<n->(0<=z j/\z j<=1600)/\1<=zs j/\zs j<=9):∀k,k<=n->0<=ey z zs k/\ey z zs k<=14400*k
 | 0,_=>by simp[ey]
 | k+1,hk=>by
  have a:=My h k (by omega);have:=Tb (h k (by omega)).1 (h k (by omega)).2;simp only[ey];omega
theorem Cd(p:Pl)(s:St)(bin good:Nat)(w:World)(hs:s.At w)(f:cv p s):
  Calls prog 116 #[s.val,.int .i64 bin,.int .i64 good] w λe P=>e = .returned (.int .i64 (bj s bin good s.ms.n))/\Below w.heap.size w P:=by
 obtain⟨d,y,x,D⟩:∃d,w.alloc (.cells s.cells 31)=d/\Below w.heap.size w d/\Blk d w.heap.size 31 7 (λj=>s.cells.getD j default):=⟨_,rfl,(Below.refl w.heap.size w).alloc nlr _,Blk.mk' rfl rfl⟩;have F:=hs.below x;have K:Hid (∀l,Below d.heap.size d l->s.At l/\l.cell? ⟨w.heap.size,3,none⟩=some (.slice s.ms.a s.ms.n s.ms.c)/\w.heap.size<l.heap.size):=
  λl h=>⟨F.below h,(D.below h).k 3,(D.below h).lt⟩
 have m8:=f.ms8;have L:Hid (∀k,k<=s.ms.n->0<=bj s bin good k/\bj s bin good k<=200*k):=λk J=>lj λj hj=>f.moveN j (by omega);have Q:Hid (w.alloc (.cells #[.slice s.on.a s.on.n s.on.c,.slice s.os.a s.os.n s.os.c,.slice s.hs.a s.hs.n s.hs.c,.slice s.ms.a s.ms.n s.ms.c,.slice s.si.a s.si.n s.si.c,.slice s.so.a s.so.n s.so.c,.slice s.sf.a s.sf.n s.sf.c] 31)=d):=y;simp only[St.val];clear D y;go_enter func116,ntmps116;go_wp2_with fail;rw[Q.out]
 go_loopw [7,8] (λu i l=>∃k:Nat,k<=s.ms.n/\i = .int .i64 k/\u = .int .i64 (bj s bin good k)/\Below d.heap.size d l) (λ_ i _=>s.ms.n-(intOf i).toNat)
 case atStart=>exact⟨0,Qxz _,rfl,by simp[bj],Below.refl _ _⟩
 obtain⟨k,J,rfl,rfl,v⟩:=hrel;have V:=L.out k J;obtain⟨B,c3,M⟩:=K.out wr v;by_cases r:k<s.ms.n;rotate_left
 .have H:k=s.ms.n:=by omega
  subst H;go_wp2_with fail;go_ret;exact⟨rfl,x.trans (v.mono x.size)⟩
 obtain⟨b,q,A,hb,z0,z1,z2,z3⟩:=B.ms.hds k r;have W:=f.moveN k r;have m:Hid (((s.ms.z k).b=bin/\(s.ms.z k).o=good->bj s bin good (k+1)=bj s bin good k+(s.ms.z k).n)/\(¬((s.ms.z k).b=bin/\(s.ms.z k).o=good)->bj s bin good (k+1)=bj s bin good k)):=⟨λh=>C0 h.1 h.2,ym⟩;have X:(0:Int)<=(k:Int):=by omega
 rw[A] at c3;clear A B
 generalize bj s bin good k=U at *
 generalize (s.ms.z k).b=S at *
 generalize (s.ms.z k).n=Y at *
 generalize (s.ms.z k).o=T at *
 cases E:(S==(bin:Int))
 .have g:=m.out.2 (by simp at E;omega);have t:=hid g;clear g m;go_wp2_with fail;go_roundw
  case rel=>exact⟨k+1,by omega,by go_num,by rw[t.out],v⟩
  case measure=>simp[intOf];omega
 cases G:(T==(good:Int))
 .have g:=m.out.2 (by simp at G;omega);have t:=hid g;clear g m;go_wp2_with fail;go_roundw
  case rel=>exact⟨k+1,by omega,by go_num,by rw[t.out],v⟩
  case measure=>simp[intOf];omega
 have g:=m.out.1 ⟨by simpa using E,by simpa using G⟩;have t:=hid g;clear g m;go_wp2_with fail;go_roundw
 case rel=>exact⟨k+1,by omega,by go_num,by rw[t.out],v⟩
 case measure=>simp[intOf];omega
theorem Jl(p:Pl)(s:St)(bin good:Nat)(w:World)(hs:s.At w)(f:cv p s)(G:bin<p.nb)(x:good<p.ns):
  Calls prog 120 #[s.val,.int .i64 bin,.int .i64 good] w λe L=>e = .returned (.int .i64 (ar s bin good))/\Below w.heap.size w L:=by
 obtain⟨o,B,u,m⟩:∃o,w.alloc (.cells s.cells 31)=o/\Below w.heap.size w o/\Blk o w.heap.size 31 7 (λj=>s.cells.getD j default):=⟨_,rfl,(Below.refl w.heap.size w).alloc nlr _,Blk.mk' rfl rfl⟩;have l:=hs.below u;have t:bin<s.on.n:=by rw[f.sh.n];exact G
 obtain⟨Q,S,i,ad,H,d⟩:=l.on.rows bin t;have v:=f.sh.len bin t;have V:=f.sh.num bin t good x;obtain⟨br,ab,E,ag,T⟩:=d.ints good (by omega);have J:=d.le;have A:=d.cap;have U:=l.on.le;have y:=l.on.cap;unfold maxLen at A y;rw[E,v] at H;rw[v] at J;have ac:=f.hs72;have m8:=f.ms8;have HB:=mr (s:=s) (b:=bin) (g:=good) f.holdN;have Y:=jq (s:=s) (b:=bin) (g:=good) f.moveN;have K:o.cell? ⟨w.heap.size,0,none⟩=some (.slice s.on.a s.on.n s.on.c):=m.k 0;rw[i] at K;have D:=qa2 l i;have r0:=Qqq K;have r1:=Qqq (m.k 1);have r2:=Qqq (m.k 2);have r3:=Qqq (m.k 3);have r4:=Qqq (m.k 4);have r5:=Qqq (m.k 5);have r6:=Qqq (m.k 6);have r7:=Qqq H;have r8:=Qqq T;have M:Hid (∀q,s.At q->Calls prog 113 #[.agg #[.slice (some ⟨Q,S,none⟩) s.on.n s.on.c,.slice s.os.a s.os.n s.os.c,.slice s.hs.a s.hs.n s.hs.c,.slice s.ms.a s.ms.n s.ms.c,.slice s.si.a s.si.n s.si.c,.slice s.so.a s.so.n s.so.c,.slice s.sf.a s.sf.n s.sf.c],.int .i64 bin,.int .i64 good] q λe L=>e = .returned (.int .i64 (bw s bin good s.hs.n+az s bin good s.ms.n))/\Below q.heap.size q L):=λq h=>by
  have:=Hn p s bin good q h f;rw[St.val,D.out.2] at this;exact this
 have X:Hid (ar s bin good=(s.on.r bin).z good-(bw s bin good s.hs.n+az s bin good s.ms.n)):=by show ar s bin good=_;unfold ar;omega
 have W:Hid (w.alloc (.cells #[.slice (some ⟨Q,S,none⟩) s.on.n s.on.c,.slice s.os.a s.os.n s.os.c,.slice s.hs.a s.hs.n s.hs.c,.slice s.ms.a s.ms.n s.ms.c,.slice s.si.a s.si.n s.si.c,.slice s.so.a s.so.n s.so.c,.slice s.sf.a s.sf.n s.sf.c] 31)=o):=by show _=o;rw[<-B,St.cells,i]
 have q1:(0:Int)<=(bin:Int):=by omega
 have q2:(0:Int)<=(good:Int):=by omega
 simp only[St.val,i];clear m B d v i E l K H T f hs
 generalize ar s bin good=AV at *
 have ae:0<=bw s bin good s.hs.n+az s bin good s.ms.n/\bw s bin good s.hs.n+az s bin good s.ms.n<=16000:=by omega
 clear HB Y
 generalize bw s bin good s.hs.n+az s bin good s.ms.n=BD at *
 generalize (s.on.r bin).z good=ON at *
 generalize (s.on.r bin).c=RC at *
 go_enter func120,ntmps120;go_wp2_with fail;rw[W.out];refine Qxq (by kernel_rfl) (by kernel_rfl) ?_
 repeat(go_big_quiet_step((go_at_call 113;exact Xxz (M.out _ (D.out.1.below (Qxx _ _ _))))))
 refine Qqz ?_;intro _ P;obtain⟨⟨dq,af⟩,F⟩:=P;subst F;go_wp2_with fail;go_ret;exact⟨by rw[X.out];rfl,u.trans ((Qxx _ _ _).mono u.size)⟩
theorem Ld(p:Pl)(s:St)(bin:Nat)(w:World)(hp:p.At w)(hs:s.At w)(f:cv p s)(q:bin<p.nb):
  Calls prog 115 #[p.val,s.val,.int .i64 bin] w λe F=>e = .returned (.int .i64 (fw p s bin))/\Below w.heap.size w F:=by
 obtain⟨K,hW,an,X0⟩:=Ih w p s;have HC:=Gd hp hs an X0;have HW:=hid hW;have y:=hid f;have ns3:=f.sh.pl.ns3;have ms8:=f.ms8;have M:bin<s.on.n:=by rw[f.sh.n];exact q
 have ub:=wn (z:=(s.on.r bin).z) (zs:=p.zs) (n:=p.ns) (λj L=>⟨f.sh.num bin M j L,f.sh.pl.sizes j L⟩) p.ns nlr;have room:0<=(p.zb bin).room/\(p.zb bin).room<=1000:=by
  have:=f.sh.pl.bins bin q;simp only[qf,Xxq,Bool.not_eq_false'] at this;exact aq this.1.1
 have HU:Hid (∀k,k<=p.ns->0<=ey (λg=>bj s bin g s.ms.n) p.zs k/\ey (λg=>bj s bin g s.ms.n) p.zs k<=14400*k):=λk hk=>My (n:=p.ns) (λj L=>⟨by have:=lj (s:=s) (b:=bin) (g:=j) f.moveN;omega,f.sh.pl.sizes j L⟩) k hk;have HE:Hid (fw p s bin=(p.zb bin).room-ey (s.on.r bin).z p.zs p.ns-ey (λg=>bj s bin g s.ms.n) p.zs p.ns):=by show fw p s bin=_;rw[Ng f bin s.ms.n nlr];rfl
 have q1:(0:Int)<=(bin:Int):=by omega
 clear hW X0 hp hs f;unfold Pl.val St.val;go_enter func115,ntmps115;go_wp2_with fail;rw[HW.out];obtain⟨X,l,m,A⟩:=HC.out K brf;obtain⟨⟨l1,J,G⟩,l2,v,c1,c2,c3,c4,c5,c6⟩:=X;obtain⟨bb,bo,D,ah,y0,y1,y2,y3⟩:=l.bins bin q;have t:=qa3 m.on l D;rw[D] at J;have W:=Qqq J;have Q:=Qqq G;have S:=Qqq v;have T:=Qqq y1;have P:Hid (∀d,p.At d->s.on.At d->Calls prog 155 #[.agg #[.slice (some ⟨bb,bo,none⟩) p.nb p.cb,.slice p.sa p.ns p.cs],.slice s.on.a s.on.n s.on.c,.int .i64 bin] d λe F=>e = .returned (.int .i64 (ey (s.on.r bin).z p.zs p.ns))/\Below d.heap.size d F):=λd h1 h2=>by
  have:=Tt p s.on bin d h1 h2 y.out.sh M;rw[Pl.val,t.out.2.2] at this;exact this
 clear D l m J G v c1 c2 c3 c4 c5 c6 y0 y1 y2 y3 HW
 generalize ey (s.on.r bin).z p.zs p.ns=US at *
 generalize (p.zb bin).room=RM at *
 refine Qxq (by kernel_rfl) (by kernel_rfl) ?_
 repeat(go_big_quiet_step((go_at_call 155;exact Xxz (P.out _ (t.out.2.1.below (Qxx _ _ _)) (t.out.1.below (Qxx _ _ _))))))
 refine Qqz ?_;intro _ B;obtain⟨⟨U,E⟩,o⟩:=B;subst o;have x:=Qxx K U E;clear W Q S T P t A l1 l2 ah
 generalize grow (redrawn K U) E=wz at *
 go_wp2_with fail
 go_loopw [7,8] (λu i d=>∃k:Nat,k<=p.ns/\i = .int .i64 k/\u = .int .i64 (RM-US-ey (λg=>bj s bin g s.ms.n) p.zs k)/\Below K.heap.size K d) (λ_ i _=>p.ns-(intOf i).toNat)
 case atStart=>exact⟨0,Qxz _,rfl,by simp[ey],x⟩
 clear x;obtain⟨g,hg,rfl,rfl,x⟩:=hrel;have ug:=HU.out g hg;obtain⟨X,l,m,A⟩:=HC.out wr x;obtain⟨⟨l1,J,G⟩,l2,v,c1,c2,c3,c4,c5,c6⟩:=X;by_cases H:g<p.ns;rotate_left
 .have ab:g=p.ns:=by omega
  subst ab;clear l m v c1 c2 c3 c4 c5 c6;go_wp2_with fail;go_ret;exact⟨by rw[HE.out];rfl,A⟩
 obtain⟨b1,o1,Y,g1,z1⟩:=l.sizes g H;have qg:(0:Int)<=(g:Int):=by omega
 have aj:=lj (s:=s) (b:=bin) (g:=g) y.out.moveN;have V:0<=bj s bin g s.ms.n/\bj s bin g s.ms.n<=1600:=by omega
 have bd:=Tb V (y.out.sh.pl.sizes g H);have af:Hid (ey (λg=>bj s bin g s.ms.n) p.zs (g+1)=ey (λg=>bj s bin g s.ms.n) p.zs g+bj s bin g s.ms.n*p.zs g):=rfl;rw[Y] at G;have ad:=hid m;have W:=Qqq v;have Q:=Qqq c1;have S:=Qqq c2;have T:=Qqq c3;have r4:=Qqq c4;have r5:=Qqq c5;have r6:=Qqq c6;have r7:=Qqq G;have r8:=Qqq z1;have ae:Hid (∀d,s.At d->Calls prog 116 #[.agg #[.slice s.on.a s.on.n s.on.c,.slice s.os.a s.os.n s.os.c,.slice s.hs.a s.hs.n s.hs.c,.slice s.ms.a s.ms.n s.ms.c,.slice s.si.a s.si.n s.si.c,.slice s.so.a s.so.n s.so.c,.slice s.sf.a s.sf.n s.sf.c],.int .i64 bin,.int .i64 g] d λe F=>e = .returned (.int .i64 (bj s bin g s.ms.n))/\Below d.heap.size d F):=λd h=>Cd p s bin g d h y.out;have pz:=y.out.sh.pl.sizes g H;clear Y l m J v c1 c2 c3 c4 c5 c6 z1 aj
 generalize ey (λg=>bj s bin g s.ms.n) p.zs g=U0 at *
 generalize bj s bin g s.ms.n=CM at *
 generalize p.zs g=PZ at *
 go_wp2_with fail;refine Qxq (by kernel_rfl) (by kernel_rfl) ?_
 repeat(go_big_quiet_step((go_at_call 116;exact Xxz (ae.out _ (ad.out.below (Qxx _ _ _))))))
 refine Qqz ?_;intro _ B;obtain⟨⟨U,E⟩,o⟩:=B;subst o;clear W Q S T r4 r5 r6 r7 r8;go_wp2_with fail;go_roundw
 case rel=>exact⟨g+1,by omega,by go_num,by rw[af.out,Int.sub_sub _ U0],x.trans ((Qxx _ _ _).mono x.size)⟩
 case measure=>simp[intOf];omega
theorem ae.symm{s t:St}(h:ae s t):ae t s:=by
 refine⟨⟨h.on.1.symm,λi hi => ?_⟩,⟨h.os.1.symm,λi hi => ?_⟩,⟨h.hs.1.symm,λj a=>(h.hs.2 j (by rw[h.hs.1];exact a)).symm⟩,⟨h.ms.1.symm,λj a=>(h.ms.2 j (by rw[h.ms.1];exact a)).symm⟩,⟨h.si.1.symm,λj a=>(h.si.2 j (by rw[h.si.1];exact a)).symm⟩,⟨h.so.1.symm,λj a=>(h.so.2 j (by rw[h.so.1];exact a)).symm⟩,⟨h.sf.1.symm,λj a=>(h.sf.2 j (by rw[h.sf.1];exact a)).symm⟩⟩
 .have x:=h.on.2 i (by rw[h.on.1];exact hi);exact⟨x.1.symm,λj a=>(x.2 j (by rw[x.1];exact a)).symm⟩
 have x:=h.os.2 i (by rw[h.os.1];exact hi);exact⟨x.1.symm,x.2.1.symm,λj a=>(x.2.2 j (by rw[x.2.1];exact a)).symm⟩
theorem ae.trans{s t u:St}(h:ae s t)(k:ae t u):ae s u:=by
 refine⟨⟨h.on.1.trans k.on.1,λi hi => ?_⟩,⟨h.os.1.trans k.os.1,λi hi => ?_⟩,⟨h.hs.1.trans k.hs.1,λj a=>(h.hs.2 j a).trans (k.hs.2 j (by rw[<-h.hs.1];exact a))⟩,⟨h.ms.1.trans k.ms.1,λj a=>(h.ms.2 j a).trans (k.ms.2 j (by rw[<-h.ms.1];exact a))⟩,⟨h.si.1.trans k.si.1,λj a=>(h.si.2 j a).trans (k.si.2 j (by rw[<-h.si.1];exact a))⟩,⟨h.so.1.trans k.so.1,λj a=>(h.so.2 j a).trans (k.so.2 j (by rw[<-h.so.1];exact a))⟩,⟨h.sf.1.trans k.sf.1,λj a=>(h.sf.2 j a).trans (k.sf.2 j (by rw[<-h.sf.1];exact a))⟩⟩
 .have x:=h.on.2 i hi;have y:=k.on.2 i (by rw[<-h.on.1];exact hi);exact⟨x.1.trans y.1,λj a=>(x.2 j a).trans (y.2 j (by rw[<-x.1];exact a))⟩
 have x:=h.os.2 i hi;have y:=k.os.2 i (by rw[<-h.os.1];exact hi);exact⟨x.1.trans y.1,x.2.1.trans y.2.1,λj a=>(x.2.2 j a).trans (y.2.2 j (by rw[<-x.2.1];exact a))⟩
def ku(r:Rw)(j:Nat)(x:Int):Rw:=⟨r.a,r.n,r.c,λi=>if i=j then x else r.z i⟩
def setOn(s:St)(b g:Nat)(x:Int):St:=⟨⟨s.on.a,s.on.n,s.on.c,λi=>if i=b then ku (s.on.r i) g x else s.on.r i⟩,s.os,s.hs,s.ms,s.si,s.so,s.sf⟩
def setIn(s:St)(g:Nat)(x:Int):St:=⟨s.on,s.os,s.hs,s.ms,ku s.si g x,s.so,s.sf⟩
theorem ju.set{A:Nat}{w:World}{r:Rw}{G:Nat}(h:ju A w r)(c:r.a=some ⟨G,0,none⟩)(j:Nat)(x:Int):ju A (w.setCell ⟨G,j,none⟩ (.int .i64 x)) (ku r j x):=by
 obtain⟨g,b,k,e,f,l⟩:=h;rw[c] at b;simp only[Qkx,Qkz,and_true] at b;subst b;refine⟨G,c,k,e,f,(l.set j (.int .i64 x)).congr λi hi => ?_⟩;show(if i=j then _ else _)=Value.int .i64 (if i=j then x else r.z i);by_cases d:i=j<;>simp[d]
theorem ju.apart{A:Nat}{w:World}{r:Rw}{G:Nat}(h:ju A w r)(i:r.a≠some ⟨G,0,none⟩)(j:Nat)(u:Value):ju A (w.setCell ⟨G,j,none⟩ u) r:=by
 obtain⟨g,b,f,c,d,k⟩:=h;refine⟨g,b,f,c,d,k.other (a:=⟨G,j,none⟩) (λe=>i ?_) u⟩;rw[b,show g=G from e]
theorem Vh{s:St}{b g:Nat}{x:Int}(i:Nat):(if i=b then ku (s.on.r i) g x else s.on.r i).a=(s.on.r i).a:=by
 by_cases h:i=b<;>simp[h,ku]
theorem ai.setOn{A:Nat}{w:World}{s:St}{b G:Nat}(h:ai A w s)(o:b<s.on.n)(l:(s.on.r b).a=some ⟨G,0,none⟩)(g:Nat)(x:Int):ai A (w.setCell ⟨G,g,none⟩ (.int .i64 x)) (Go.Proofs.YtbcacebifpagpagGreat.setOn s b g x):=by
 obtain⟨F,k,_,_,_,d⟩:=h.rows b o;rw[l] at k;simp only[Qkx,Qkz,and_true] at k;subst k;have q:=h.ari b o;rw[l] at q;refine⟨?_,λi hi => ?_,λi j u D => ?_,h.os.other d (by decide) (by decide) g _,h.hs.other d (by decide) g _,h.ms.other d (by decide) g _,h.msr.set _ _ _,h.si.apart (λe=>q.1 e.symm) g _,h.so.apart (λe=>q.2.1 e.symm) g _,h.sf.apart (λe=>q.2.2 e.symm) g _,h.aio,h.aif,h.aof,λi hi => ?_⟩
 .obtain⟨y,p,E,z,B,m⟩:=h.on;refine⟨y,p,E,z,B,(m.other (a:=⟨G,g,none⟩) (Blk.ne2 m d (by decide)) _).congr λi hi => ?_⟩;show _=Value.slice (if i=b then ku (s.on.r i) g x else s.on.r i).a (if i=b then ku (s.on.r i) g x else s.on.r i).n (if i=b then ku (s.on.r i) g x else s.on.r i).c;by_cases f:i=b<;>simp[f,ku]
 .show ju A _ (if i=b then ku (s.on.r i) g x else s.on.r i);by_cases f:i=b
  .subst f;rw[if_pos rfl];exact(h.rows i hi).set l g x
  rw[if_neg f];refine(h.rows i hi).apart (λe => ?_) g _;rcases Nat.lt_or_gt_of_ne f with v|t
  .exact h.rapart i b v o (e.trans l.symm)
  exact h.rapart b i t hi (l.trans e.symm)
 .show(if i=b then ku (s.on.r i) g x else s.on.r i).a≠(if j=b then ku (s.on.r j) g x else s.on.r j).a;rw[Vh,Vh];exact h.rapart i j u D
 show(if i=b then ku (s.on.r i) g x else s.on.r i).a≠_/\(if i=b then ku (s.on.r i) g x else s.on.r i).a≠_/\(if i=b then ku (s.on.r i) g x else s.on.r i).a≠_;rw[Vh];exact h.ari i hi
theorem ai.setIn{A:Nat}{w:World}{s:St}{G:Nat}(h:ai A w s)(d:s.si.a=some ⟨G,0,none⟩)(g:Nat)(x:Int):ai A (w.setCell ⟨G,g,none⟩ (.int .i64 x)) (Go.Proofs.YtbcacebifpagpagGreat.setIn s g x):=by
 obtain⟨o,c,_,_,_,b⟩:=h.si;rw[d] at c;simp only[Qkx,Qkz,and_true] at c;subst c;refine⟨?_,λi hi=>(h.rows i hi).apart (λe=>(h.ari i hi).1 (e.trans d.symm)) g _,h.rapart,h.os.other b (by decide) (by decide) g _,h.hs.other b (by decide) g _,h.ms.other b (by decide) g _,h.msr.set _ _ _,h.si.set d g x,h.so.apart (λe=>h.aio (d.trans e.symm)) g _,h.sf.apart (λe=>h.aif (d.trans e.symm)) g _,h.aio,h.aif,h.aof,h.ari⟩;obtain⟨k,j,n,l,m,f⟩:=h.on;exact⟨k,j,n,l,m,f.other (a:=⟨G,g,none⟩) (Blk.ne2 f b (by decide)) _⟩
def dw(s:St)(b g:Nat):Int:=(s.on.r b).z g+bj s b g s.ms.n
def gt(p:Pl)(s:St)(bin good n:Int):Int :=
 if ag p s=0 then(if inB bin 0 ((p.nb:Int)-1)&&inB good 0 ((p.ns:Int)-1)&&inB n 1 200 then(if fw p s bin.toNat<n*p.zs good.toNat then 5 else if 200<dw s bin.toNat good.toNat+n\/1048576<s.si.z good.toNat+n then 2 else 0) else 3) else ag p s
def li(s:St)(b g:Nat)(n:Int):St:=setIn (setOn s b g ((s.on.r b).z g+n)) g (s.si.z g+n)
def du(E:Int)(t s':St):Prop:=(E=0->ae s' t)/\(¬E=0->Dj s')
theorem xr{s t:St}(h:ae s t)(b g:Nat)(x:Int):ae (setOn s b g x) (setOn t b g x):=by
 refine⟨⟨h.on.1,λi hi => ?_⟩,h.os,h.hs,h.ms,h.si,h.so,h.sf⟩;have y:=h.on.2 i hi;show(if i=b then ku (s.on.r i) g x else s.on.r i).n=(if i=b then ku (t.on.r i) g x else t.on.r i).n/\∀j,j<(if i=b then ku (s.on.r i) g x else s.on.r i).n->(if i=b then ku (s.on.r i) g x else s.on.r i).z j=(if i=b then ku (t.on.r i) g x else t.on.r i).z j;by_cases a:i=b
 .rw[if_pos a,if_pos a];refine⟨y.1,λj c => ?_⟩;show(if j=g then x else(s.on.r i).z j)=if j=g then x else(t.on.r i).z j;rw[y.2 j c]
 rw[if_neg a,if_neg a];exact y
theorem Gp{s t:St}(h:ae s t)(g:Nat)(x:Int):ae (setIn s g x) (setIn t g x):=by
 refine⟨h.on,h.os,h.hs,h.ms,⟨h.si.1,λj a => ?_⟩,h.so,h.sf⟩;show(if j=g then x else s.si.z j)=if j=g then x else t.si.z j;rw[h.si.2 j a]
theorem gz{f:Func}{r u:Tmp}(q:f.results=#[.cell r 31,.tmp u]){a:Act}{d E:Int}{T:St}{w c:World}{B:Nat}{g:Nat->Value}(o:Blk c B 31 7 g)(k:Below w.heap.size w c)(s:w.heap.size<=B)(hx:E=d)(l:¬d=0)(t:a.tmps.getD r undef = .pointer (some ⟨B,0,none⟩))(n:a.tmps.getD u undef = .int .i64 d)(hd:a.defers=[]):
  bodyPost prog f (λe j=>∃y:St,e = .returned (.tuple #[y.val,.int .i64 E])/\y.At j/\du E T y/\(E=0->ai w.heap.size j y)/\Below w.heap.size w j) Exit.ret a (((((((c.setCell ⟨B,0,none⟩ (.slice none 0 0)).setCell ⟨B,1,none⟩ (.slice none 0 0)).setCell ⟨B,2,none⟩ (.slice none 0 0)).setCell ⟨B,3,none⟩ (.slice none 0 0)).setCell ⟨B,4,none⟩ (.slice none 0 0)).setCell ⟨B,5,none⟩ (.slice none 0 0)).setCell ⟨B,6,none⟩ (.slice none 0 0)):=by
 have m:=rq o (.slice none 0 0) (.slice none 0 0) (.slice none 0 0) (.slice none 0 0) (.slice none 0 0) (.slice none 0 0) (.slice none 0 0);have i:=nf (b:=B) k s (.slice none 0 0) (.slice none 0 0) (.slice none 0 0) (.slice none 0 0) (.slice none 0 0) (.slice none 0 0) (.slice none 0 0);unfold set7 at m i;obtain⟨p,c1,c2,c3,c4,c5,c6⟩:=cn m
 generalize (((((((c.setCell ⟨B,0,none⟩ (.slice none 0 0)).setCell ⟨B,1,none⟩ (.slice none 0 0)).setCell ⟨B,2,none⟩ (.slice none 0 0)).setCell ⟨B,3,none⟩ (.slice none 0 0)).setCell ⟨B,4,none⟩ (.slice none 0 0)).setCell ⟨B,5,none⟩ (.slice none 0 0)).setCell ⟨B,6,none⟩ (.slice none 0 0))=W at *
 refine Xzq (v := .tuple #[l8.val,.int .i64 d]) ?_ hd ?_
 .rw[results_cell_tmp q,t,n];simp[go_sem,l8,St.val,p,c1,c2,c3,c4,c5,c6]
 exact⟨l8,by rw[hx],vy _,⟨λh=>absurd (hx.symm.trans h) l,λ_=>⟨rfl,rfl,rfl,rfl,rfl,rfl,rfl⟩⟩,λh=>absurd (hx.symm.trans h) l,i⟩
structure Tk where
 left:Int
 took:Int->Int
def Tk.step(av:Int->Int)(t:Tk)(b:Int):Tk:=⟨t.left-min t.left (av b),λx=>t.took x+if x=b then min t.left (av b) else 0⟩
def Tk.go(av:Int->Int)(n:Int)(l:List Int):Tk:=l.foldl (Tk.step av) ⟨n,λ_=>0⟩
theorem Tk.go_more(av:Int->Int)(n:Int)(l:List Int)(b:Int):Tk.go av n (l++[b])=(Tk.go av n l).step av b:=by
 unfold Tk.go;rw[List.foldl_append]
 rfl
structure zu(av:Int->Int)(n:Int)(l:List Int)(t:Tk):Prop where
 left0:0<=t.left
 leftn:t.left<=n
 took0:∀x,0<=t.took x
 tookn:∀x,t.took x<=n-t.left
 had:∀x,x∈l->t.took x<=av x
 other:∀x,x ∉ l->t.took x=0
 all:0<t.left->∀x,x∈l->t.took x=av x
 sum:cu (λb=>t.took b) 6=n-t.left
theorem abz{av:Int->Int}{n:Int}(q:0<=n):∀{l:List Int},l.Pairwise (λx y=>¬x=y)->(∀x,x∈l->0<=av x)->(∀x,x∈l->0<=x/\x<6)->zu av n l (Tk.go av n l):=by
 suffices H:∀(k:Nat) (l:List Int),l.length=k->l.Pairwise (λx y=>¬x=y)->(∀x,x∈l->0<=av x)->(∀x,x∈l->0<=x/\x<6)->zu av n l (Tk.go av n l) from λ{l}=>H l.length l rfl
 intro k
 induction k with
 | zero =>
  intro l g _ _ _;obtain rfl:=List.eq_nil_of_length_eq_zero g;exact⟨q,Int.le_refl _,λ_=>Int.le_refl _,λ_=>by show(0:Int)<=n-n;omega,λx h=>by simp at h,λ_ _=>rfl,λ_ x h=>by simp at h,by show(0:Int)+0+0+0+0+0+0=n-n;omega⟩
 | succ m ih =>
  intro l0 c hd p f;obtain⟨l,b,rfl⟩:∃l b,l0=l++[b]:=⟨l0.dropLast,l0.getLast (by intro e;rw[e] at c;simp at c),(List.dropLast_concat_getLast _).symm⟩;have o:l.length=m:=by simpa using c
  rw[List.pairwise_append] at hd;have r:b ∉ l:=λs=>hd.2.2 b s b (by simp) rfl;have k:=ih l o hd.1 (λx hx=>p x (by simp[hx])) (λx hx=>f x (by simp[hx]));have w:=f b (by simp);have B:=p b (by simp);rw[Tk.go_more]
  generalize Tk.go av n l=t at k
  have E:=k.left0;have D:=k.leftn;have u:0<=min t.left (av b)/\min t.left (av b)<=t.left/\min t.left (av b)<=av b:=by omega
  have v:=k.other b r;refine⟨?_,?_,λx => ?_,λx => ?_,λx hx => ?_,λx hx => ?_,λg x hx => ?_,?_⟩
  .show 0<=t.left-min t.left (av b);omega
  .show t.left-min t.left (av b)<=n;omega
  .have:=k.took0 x;show 0<=t.took x+if x=b then min t.left (av b) else 0
   split<;>omega
  .have:=k.tookn x;show(t.took x+if x=b then min t.left (av b) else 0)<=n-(t.left-min t.left (av b))
   split<;>omega
  .show(t.took x+if x=b then min t.left (av b) else 0)<=av x;by_cases a:x=b
   .subst a;rw[if_pos rfl];omega
   rw[if_neg a];have:x∈l:=by simpa[a] using hx
   have:=k.had x this;omega
  .show(t.took x+if x=b then min t.left (av b) else 0)=0;have a:¬x=b:=λe=>hx (by simp[e]);have j:x ∉ l:=λe=>hx (by simp[e]);rw[if_neg a,k.other x j]
   rfl
  .have A:0<t.left-min t.left (av b):=g;show(t.took x+if x=b then min t.left (av b) else 0)=av x;by_cases a:x=b
   .subst a;rw[if_pos rfl];omega
   rw[if_neg a];have:x∈l:=by simpa[a] using hx
   have:=k.all (by omega) x this;omega
  show cu (λx=>t.took x+if (x:Int)=b then min t.left (av b) else 0) 6=n-(t.left-min t.left (av b));have e:=k.sum;rw[Br (z:=λx=>t.took x) (m:=b.toNat) (n:=min t.left (av b)) (by omega) λi hi=>by
   by_cases d:i=b.toNat
   .have:((i:Nat):Int)=b:=by omega
    rw[if_pos this,if_pos d]
   have:¬((i:Nat):Int)=b:=by omega
   rw[if_neg this,if_neg d,Int.add_zero],e]
  omega
def fa(p:Pl)(but:Int):List Int:=(fu p).filter (λb => !(b==but))
theorem wo{p:Pl}{but x:Int}:x∈fa p but↔x∈fu p/\¬x=but:=by
 unfold fa;rw[List.mem_filter];simp
theorem uj(p:Pl)(but:Int):(fa p but).Pairwise (λx y=>¬x=y):=((Ry p).imp λh=>h.1).filter _
def dc(p:Pl)(s:St):Bool := !(jf p s||gj p s||j8 p s||fj p s)
theorem Qy{p:Pl}{s:St}{i:Nat}(hi:i<s.os.n)(h:lp p (s.os.z i)=true):dc p s=false:=by
 have:jf p s=true:=dt hi h;simp[dc,this]
theorem Yw{p:Pl}{s:St}(h:¬gw s.hs.n s.hs.z=0):dc p s=false:=by
 have:gj p s=true:=by simp[gj,h]
 simp[dc,this]
theorem aal{p:Pl}{s:St}{i:Nat}(hi:i<s.hs.n)(h:i6 p s (s.hs.z i)=true):dc p s=false:=by
 have:gj p s=true:=by unfold gj;rw[dt hi h,Bool.or_true]
 simp[dc,this]
theorem aap{p:Pl}{s:St}{i:Nat}(hi:i<s.ms.n)(h:lx p (s.ms.z i)=true):dc p s=false:=by
 have:j8 p s=true:=dt hi h;simp[dc,this]
theorem aam{p:Pl}{s:St}(h:¬s.si.n=p.ns):dc p s=false:=by
 have:fj p s=true:=by
  have a:((s.si.n:Int) !=(p.ns:Int))=true:=by simp;omega
  simp[fj,lr,a]
 simp[dc,this]
theorem aan{p:Pl}{s:St}(h:¬s.so.n=p.ns):dc p s=false:=by
 have:fj p s=true:=by
  have a:((s.so.n:Int) !=(p.ns:Int))=true:=by simp;omega
  simp[fj,lr,a]
 simp[dc,this]
theorem aao{p:Pl}{s:St}(h:¬s.sf.n=p.ns):dc p s=false:=by
 have:fj p s=true:=by
  have a:((s.sf.n:Int) !=(p.ns:Int))=true:=by simp;omega
  simp[fj,lr,a]
 simp[dc,this]
theorem Fk{p:Pl}{l:Rw}{low:Int}{g:Nat}(a:l.n=p.ns)(b:g<p.ns)(h:inB (l.z g) low 1048576=false):lr p l low=true:=by
 unfold lr;rw[dt (k:=g) (by omega) (by rw[h];rfl),Bool.or_true]
theorem Hj{p:Pl}{l:Rw}{low:Int}(a:l.n=p.ns)(h:∀g,g<p.ns->inB (l.z g) low 1048576=true):lr p l low=false:=by
 unfold lr;rw[ct λj b=>by rw[h j (by omega)];rfl,a];simp
theorem Qz{p:Pl}{s:St}(h:lr p s.si 0=true\/lr p s.so 0=true\/lr p s.sf (-1048576)=true):dc p s=false:=by
 have:fj p s=true:=by
  unfold fj;rcases h with h|h|h<;>rw[h]<;>simp
 simp[dc,this]
def Mu(s:St)(g:Nat):Bool:=inB (s.si.z g) 0 1048576&&inB (s.so.z g) 0 1048576&&inB (s.sf.z g) (-1048576) 1048576
theorem abn{p:Pl}{s:St}(d:∀i,i<s.os.n->lp p (s.os.z i)=false)(o:gw s.hs.n s.hs.z=0)(m:∀i,i<s.hs.n->i6 p s (s.hs.z i)=false)(e:∀i,i<s.ms.n->lx p (s.ms.z i)=false)
  (b:s.si.n=p.ns/\s.so.n=p.ns/\s.sf.n=p.ns) (j:∀g,g<p.ns->Mu s g=true):dc p s=true:=by
 have c:jf p s=false:=ct d;have k:gj p s=false:=by unfold gj;rw[o,ct m];rfl
 have f:j8 p s=false:=ct e;have l:fj p s=false:=by
  have h:∀g,g<p.ns->(inB (s.si.z g) 0 1048576=true/\inB (s.so.z g) 0 1048576=true)/\inB (s.sf.z g) (-1048576) 1048576=true:=λg a=>by
   have:=j g a
   simpa[Mu] using this
  unfold fj;rw[Hj b.1 λg a=>(h g a).1.1,Hj b.2.1 λg a=>(h g a).1.2,Hj b.2.2 λg a=>(h g a).2]
  rfl
 unfold dc;rw[c,k,f,l]
 rfl
theorem Hr{n:Nat}{z:Nat->Hd}(h:gw n z=0):aw n (cz z)=false:=by
 cases a:aw n (cz z)
 .rfl
 simp[gw,a] at h
theorem vp{k:Nat}{f:Nat->Bool}{b:Bool}(h:∀j,j<k->f j=b)(c:f k=b):∀j,j<k+1->f j=b:=λj d=>by
 by_cases a:j=k
 .rw[a];exact c
 exact h j (by omega)
theorem Uj(p:Pl)(s:St)(w:World)(hp:p.At w)(hs:s.At w)(h0:ev p s.on=0)(h1:fs s=false):
  Calls prog 50 #[p.val,s.val] w λe w'=>e = .returned (.bool (dc p s))/\Below w.heap.size w w':=by
 obtain⟨M,hW,cr,X0⟩:=Ih w p s;have HC:=Gd hp hs cr X0;have HW:=hid hW;have HT:Hid (s.os.n<=4/\s.ms.n<=8/\(∀i,i<s.os.n->1<=(s.os.z i).ls.n/\(s.os.z i).ls.n<=3)):=by
  unfold fs at h1;simp only[Xxq,decide_eq_false_iff_not] at h1;refine⟨by omega,by omega,λi hi => ?_⟩;have:=di h1.2 i hi;simp only[p9,Bool.not_eq_false'] at this;have:=aq this;omega
 have leb:=hp.leb;have ak:=hp.capb;have les:=hp.les;have a7:=hp.caps;have os4:=HT.out.1;have ms8:=HT.out.2.1;clear hW X0 h0 h1 hp hs;unfold Pl.val St.val;go_enter func50,ntmps50;go_wp2_with fail;rw[HW.out]
 go_loopw [5] (λi A=>∃k:Nat,k<=s.os.n/\i = .int .i64 k/\(∀j,j<k->lp p (s.os.z j)=false)/\Below M.heap.size M A) (λi _=>s.os.n-(intOf i).toNat)
 case atStart=>exact⟨0,Qxz _,rfl,λj hj=>absurd hj (Qzq _),Below.refl _ _⟩
 obtain⟨i,hi,rfl,J,B⟩:=hrel;have HN:=hid J;clear J;obtain⟨X,D,r,f⟩:=HC.out wr B;obtain⟨⟨l1,d0,d1⟩,l2,S,c1,c2,c3,c4,c5,c6⟩:=X;by_cases y:i<s.os.n
 .obtain⟨b,o,U,hb,z0,z1,hl⟩:=r.os.ods i y;have q1:(0:Int)<=(i:Int):=by omega
  have d7:=(HT.out.2.2 i y);have ck:=hl.le;have a2:=hl.cap;unfold maxLen at a2;have HO:=hid U;have HE:Hid (lp p (s.os.z i)=(!inB (s.os.z i).k 0 2||aw (s.os.z i).ls.n (λj=>jy p ((s.os.z i).ls.z j)))):=rfl;rw[U] at c1;clear U hl r S c2 c3 c4 c5 c6 D;cases hk:inB (s.os.z i).k 0 2
  .have d:Hid (dc p s=false):=Qy y (by rw[HE.out,hk];rfl)
   generalize (s.os.z i).k=KD at *
   go_wp2_with(go_at_call 23;refine ah (ce _ _ _ _) ?_);go_ret;exact⟨by rw[d.out];rfl,f⟩
  have bv:Hid (lp p (s.os.z i)=aw (s.os.z i).ls.n (λj=>jy p ((s.os.z i).ls.z j))):=by show lp p (s.os.z i)=_;rw[HE.out,hk];rfl
  clear HE
  generalize (s.os.z i).k=KD at *
  go_wp2_with(go_at_call 23;refine ah (ce _ _ _ _) ?_);clear hk z0 f z1 c1 d0 d1 l1 l2 hb
  go_loopw [6] (λi0 A=>∃k:Nat,k<=(s.os.z i).ls.n/\i0 = .int .i64 k/\(∀j,j<k->jy p ((s.os.z i).ls.z j)=false)/\Below M.heap.size M A) (λi0 _=>(s.os.z i).ls.n-(intOf i0).toNat)
  case atStart=>exact⟨0,Qxz _,rfl,λj hj=>absurd hj (Qzq _),B⟩
  clear B;obtain⟨j,hj,rfl,J,B⟩:=hrel;have P:=hid J;clear J;obtain⟨X,D,r,f⟩:=HC.out wr B;obtain⟨⟨l1,d0,d1⟩,l2,S,c1,c2,c3,c4,c5,c6⟩:=X;obtain⟨b',o',U,hb,z0,z1,hl⟩:=r.os.ods i y;rw[HO.out] at U c1;simp only[Qkx,Qkz,and_true] at U;obtain⟨rfl,rfl⟩:=U;by_cases b0:j<(s.os.z i).ls.n;rotate_left
  .have HA:Hid (lp p (s.os.z i)=false):=by show lp p (s.os.z i)=false;rw[bv.out];exact ct λj' ee=>P.out j' (by omega)
   clear S c2 c3 c4 c5 c6 D r hl;go_wp2_with fail;go_roundw
   case rel=>exact⟨i+1,by omega,by go_num,vp HN.out HA.out,B⟩
   case measure=>simp[intOf];omega
  obtain⟨b2,o2,bt,cy,y0,y1,y2,y3⟩:=hl.hds j b0;have q2:(0:Int)<=(j:Int):=by omega
  have m:Hid (jy p ((s.os.z i).ls.z j)=true->dc p s=false):=λh=>Qy y (by rw[bv.out];exact dt b0 h);have u:Hid (jy p ((s.os.z i).ls.z j)=false->∀j',j'<j+1->jy p ((s.os.z i).ls.z j')=false):=λh=>vp P.out h;have t:Hid (jy p ((s.os.z i).ls.z j)=(!inB ((s.os.z i).ls.z j).o 0 ((p.ns:Int)-1) || !inB ((s.os.z i).ls.z j).l 1 200 || !inB ((s.os.z i).ls.z j).b 0 ((s.os.z i).ls.z j).l || !inB ((s.os.z i).ls.z j).n 0 ((s.os.z i).ls.z j).l)):=rfl;rw[bt] at z1;clear bt hl r D S c2 c3 c4 c5 c6 z0 P
  generalize jy p ((s.os.z i).ls.z j)=BL at *
  generalize (s.os.z i).ls.z j=v at *
  obtain⟨H,ai,G,E⟩:∃H,wr.alloc (.cells #[.int .i64 v.o,.int .i64 v.l,.int .i64 v.b,.int .i64 v.n] 59)=H/\Below M.heap.size M H/\Blk H wr.heap.size 59 4 (λj=>(#[.int .i64 v.o,.int .i64 v.l,.int .i64 v.b,.int .i64 v.n]:Array Value).getD j default):=⟨_,rfl,B.alloc B.size _,Blk.mk' rfl rfl⟩;obtain⟨B4,Q⟩:∃B4,wr.heap.size=B4:=⟨_,rfl⟩;rw[Q] at E;have HV:=qa2 ai Q;obtain⟨X,D,r,K⟩:=HC.out H G;clear ai Q X D r;have HY:Hid (∀A,Below H.heap.size H A->(A.cell? ⟨B4,1,none⟩=some (.int .i64 v.l)/\A.cell? ⟨B4,2,none⟩=some (.int .i64 v.b)/\A.cell? ⟨B4,3,none⟩=some (.int .i64 v.n)/\B4<A.heap.size)/\Below M.heap.size M A/\Below w.heap.size w A):=
   λA h=>⟨⟨(E.below h).k 1,(E.below h).k 2,(E.below h).k 3,(E.below h).lt⟩,G.trans (h.mono G.size),K.trans (h.mono K.size)⟩
  clear E G K f;go_wp2_with fail;rw[HV.out.1];refine(ua p v.o H les a7).mono ?_;rintro e w2 ⟨rfl,V⟩;rw[HV.out.2];obtain⟨⟨t1,t2,t3,l4⟩,ao,f⟩:=HY.out w2 V;clear V HY HV y0 y1 y2 y3 z1 c1 d0 d1 l1 l2 hb cy B;cases x:inB v.o 0 ((p.ns:Int)-1)
  .have d:Hid (dc p s=false):=m.out (by rw[t.out,x];rfl);clear t m u x;go_wp2_with fail;go_ret;exact⟨by rw[d.out];rfl,f⟩
  cases F:inB v.l 1 200
  .have d:Hid (dc p s=false):=m.out (by rw[t.out,x,F];rfl);clear t m u x;go_wp2_with(go_at_call 23;refine ah (ce _ _ _ _) ?_);go_ret;exact⟨by rw[d.out];rfl,f⟩
  cases L:inB v.b 0 v.l
  .have d:Hid (dc p s=false):=m.out (by rw[t.out,x,F,L];rfl);clear t m u x;go_wp2_with(go_at_call 23;refine ah (ce _ _ _ _) ?_);go_ret;exact⟨by rw[d.out];rfl,f⟩
  cases k4:inB v.n 0 v.l
  .have d:Hid (dc p s=false):=m.out (by rw[t.out,x,F,L,k4];rfl);clear t m u x;go_wp2_with(go_at_call 23;refine ah (ce _ _ _ _) ?_);go_ret;exact⟨by rw[d.out];rfl,f⟩
  have d:=u.out (by rw[t.out,x,F,L,k4];rfl);have an:Hid _:=d;clear t m u x d;go_wp2_with(go_at_call 23;refine ah (ce _ _ _ _) ?_);go_roundw
  case rel=>exact⟨j+1,by omega,by go_num,an.out,ao⟩
  case measure=>simp[intOf];omega
 have c8:Hid (∀j,j<s.os.n->lp p (s.os.z j)=false):=λj hj=>HN.out j (by omega);clear HN;have bx:=hid r.hs;clear r D S c3 c4 c5 c6 f d0 d1;go_wp2_with fail;refine(M4 s.hs wr bx.out).mono ?_;rintro e w2 ⟨rfl,V⟩;have B:=B.trans (V.mono B.size);clear V bx c1 c2 l1 l2 y hi;by_cases h0:gw s.hs.n s.hs.z=0;rotate_left
 .have d:Hid (dc p s=false):=Yw h0;obtain⟨X,D,r,f⟩:=HC.out w2 B;clear X D r;go_wp2_with fail;go_ret;exact⟨by rw[d.out];rfl,f⟩
 have H0:=hid h0;have eb:s.hs.n<=72:=wh (Hr h0);rw[h0];clear h0;go_wp2_with fail
 go_loopw [8] (λi A=>∃k:Nat,k<=s.hs.n/\i = .int .i64 k/\(∀j,j<k->i6 p s (s.hs.z j)=false)/\Below M.heap.size M A) (λi _=>s.hs.n-(intOf i).toNat)
 case atStart=>exact⟨0,Qxz _,rfl,λj hj=>absurd hj (Qzq _),B⟩
 clear B;obtain⟨k,hk,rfl,J,B⟩:=hrel;have P:=hid J;clear J;obtain⟨X,D,r,f⟩:=HC.out wr B;obtain⟨⟨l1,d0,d1⟩,l2,S,c1,c2,c3,c4,c5,c6⟩:=X;by_cases y:k<s.hs.n
 .obtain⟨b,q,bu,hb,z0,z1,z2,z3⟩:=r.hs.hds k y;have ay:=cx (ca (Hr H0.out) k y);obtain⟨T,bg⟩:=Qzz ay.1.1;obtain⟨ml,be⟩:=Qzz ay.2.1.1;have q4:(0:Int)<=(k:Int):=by omega
  have q2:(0:Int)<=(T:Int):=by omega
  have q3:(0:Int)<=(ml:Int):=by omega
  have m:Hid (i6 p s (s.hs.z k)=true->dc p s=false):=λh=>aal y h;have u:Hid (i6 p s (s.hs.z k)=false->∀j',j'<k+1->i6 p s (s.hs.z j')=false):=λh=>vp P.out h;have t:Hid (i6 p s (s.hs.z k)=(!inB T 0 ((s.os.n:Int)-1) || !inB ml 0 (((s.os.z T).ls.n:Int)-1) || !inB (s.hs.z k).b 0 ((p.nb:Int)-1))):=by
   show i6 p s (s.hs.z k)=_;unfold i6;rw[bg,be]
   rfl
  rw[bg] at z0;rw[be] at z1;rw[bu] at c2;clear bg be ay P bu
  generalize i6 p s (s.hs.z k)=BL at *
  generalize (s.hs.z k).b=HB at *
  generalize (s.hs.z k).n=bz at *
  obtain⟨H,ai,G,E,ea⟩:∃H,wr.alloc (.cells #[.int .i64 T,.int .i64 ml,.int .i64 HB,.int .i64 bz] 61)=H/\Below M.heap.size M H/\Blk H wr.heap.size 61 4 (λj=>(#[.int .i64 T,.int .i64 ml,.int .i64 HB,.int .i64 bz]:Array Value).getD j default)/\Below wr.heap.size wr H:=⟨_,rfl,B.alloc B.size _,Blk.mk' rfl rfl,brf.alloc nlr _⟩;have HV:=hid ai;obtain⟨X,b8,a3,K⟩:=HC.out H G;obtain⟨⟨m1,e0,e1⟩,m2,f0,f1,f2,f3,f4,f5,f6⟩:=X;have r0:=Qqq (E.k 0);have r1:=Qqq (E.k 1);have r2:=Qqq (E.k 2);have r3:=Qqq e0;have r4:=Qqq e1;clear e0 e1 f0 f2 f3 f4 f5 f6 b8 ai;by_cases g1:T<s.os.n;rotate_left
  .have cl:(s.os.n:Int)<=(T:Int):=by omega
   have x:inB T 0 ((s.os.n:Int)-1)=false:=Ws (by omega);have r5:=Qqq f1;have d:Hid (dc p s=false):=m.out (by rw[t.out,x];rfl);clear t m u x f1 a3;go_wp2_with fail;rw[HV.out];refine Qxq (by kernel_rfl) (by kernel_rfl) ?_
   repeat(go_big_quiet_step(fail))
   refine Qqz ?_;intro _ am;obtain⟨⟨dq,bo⟩,Y⟩:=am;subst Y;go_wp2_with fail;go_ret;exact⟨by rw[d.out];rfl,K.trans ((Qxx _ _ _).mono K.size)⟩
  obtain⟨b1,o1,U,d8,-,y1,hl⟩:=a3.os.ods T g1;have ck:=hl.le;have a2:=hl.cap;have l3:=HT.out.2.2 T g1;unfold maxLen at a2;rw[U] at f1;have r5:=Qqq f1;have r6:=Qqq y1;have cl:¬(s.os.n:Int)<=(T:Int):=by omega
  have d9:¬s.os.n<=T:=by omega
  have x:inB T 0 ((s.os.n:Int)-1)=true:=bq (by omega);clear U hl a3 f1 y1
  generalize (s.os.z T).ls.n=LN at *
  generalize (s.os.z T).ls.a=LA at *
  generalize (s.os.z T).ls.c=LC at *
  by_cases g2:ml<LN;rotate_left
  .have ec:(LN:Int)<=(ml:Int):=by omega
   have F:inB ml 0 ((LN:Int)-1)=false:=Ws (by omega);have d:Hid (dc p s=false):=m.out (by rw[t.out,x,F];rfl);clear t m u x F;go_wp2_with fail;rw[HV.out];refine Qxq (by kernel_rfl) (by kernel_rfl) ?_
   repeat(go_big_quiet_step(fail))
   refine Qqz ?_;intro _ am;obtain⟨⟨dq,bo⟩,Y⟩:=am;subst Y;go_wp2_with fail;go_ret;exact⟨by rw[d.out];rfl,K.trans ((Qxx _ _ _).mono K.size)⟩
  have ed:¬LN<=ml:=by omega
  have F:inB ml 0 ((LN:Int)-1)=true:=bq (by omega);cases L:inB HB 0 ((p.nb:Int)-1)
  .have d:Hid (dc p s=false):=m.out (by rw[t.out,x,F,L];rfl);clear t m u x F;go_wp2_with fail;rw[HV.out];refine Qxq (by kernel_rfl) (by kernel_rfl) ?_
   repeat(go_big_quiet_step((go_at_call 111;exact Xxz (zi p HB _ leb ak))))
   refine Qqz ?_;intro _ am;obtain⟨⟨dq,bo⟩,Y⟩:=am;subst Y;rw[L];go_wp2_with fail;go_ret;exact⟨by rw[d.out];rfl,K.trans ((Qxx _ _ _).mono K.size)⟩
  have d:=u.out (by rw[t.out,x,F,L];rfl);have an:Hid _:=d;clear t m u x F d;go_wp2_with fail;rw[HV.out];refine Qxq (by kernel_rfl) (by kernel_rfl) ?_
  repeat(go_big_quiet_step((go_at_call 111;exact Xxz (zi p HB _ leb ak))))
  refine Qqz ?_;intro _ am;obtain⟨⟨dq,bo⟩,Y⟩:=am;subst Y;rw[L];go_wp2_with fail;go_roundw
  case rel=>exact⟨k+1,by omega,by go_num,an.out,G.trans ((Qxx _ _ _).mono G.size)⟩
  case measure=>simp[intOf];omega
 have cw:Hid (∀j,j<s.hs.n->i6 p s (s.hs.z j)=false):=λj hj=>P.out j (by omega);clear P;go_wp2_with fail;clear r D S c1 c2 c3 c4 c5 c6 d0 d1 f l1 l2 y hk
 go_loopw [10] (λi A=>∃k:Nat,k<=s.ms.n/\i = .int .i64 k/\(∀j,j<k->lx p (s.ms.z j)=false)/\Below M.heap.size M A) (λi _=>s.ms.n-(intOf i).toNat)
 case atStart=>exact⟨0,Qxz _,rfl,λj hj=>absurd hj (Qzq _),B⟩
 clear B;obtain⟨k,hk,rfl,J,B⟩:=hrel;have P:=hid J;clear J;obtain⟨X,D,r,f⟩:=HC.out wr B;obtain⟨⟨l1,d0,d1⟩,l2,S,c1,c2,c3,c4,c5,c6⟩:=X;by_cases y:k<s.ms.n
 .obtain⟨b,q,bw,hb,z0,z1,z2,z3⟩:=r.ms.hds k y;have q4:(0:Int)<=(k:Int):=by omega
  have m:Hid (lx p (s.ms.z k)=true->dc p s=false):=λh=>aap y h;have u:Hid (lx p (s.ms.z k)=false->∀j',j'<k+1->lx p (s.ms.z j')=false):=λh=>vp P.out h;have t:Hid (lx p (s.ms.z k)=(!inB (s.ms.z k).o 0 ((p.ns:Int)-1) || !inB (s.ms.z k).l 0 ((p.nb:Int)-1) || !inB (s.ms.z k).b 0 ((p.nb:Int)-1)||((s.ms.z k).l==(s.ms.z k).b) || !inB (s.ms.z k).n 1 200)):=rfl;rw[bw] at c3;clear bw r D S c1 c2 c4 c5 c6 P
  generalize lx p (s.ms.z k)=BL at *
  generalize s.ms.z k=v at *
  obtain⟨H,ai,G,E⟩:∃H,wr.alloc (.cells #[.int .i64 v.o,.int .i64 v.l,.int .i64 v.b,.int .i64 v.n] 63)=H/\Below M.heap.size M H/\Blk H wr.heap.size 63 4 (λj=>(#[.int .i64 v.o,.int .i64 v.l,.int .i64 v.b,.int .i64 v.n]:Array Value).getD j default):=⟨_,rfl,B.alloc B.size _,Blk.mk' rfl rfl⟩;obtain⟨B4,Q⟩:∃B4,wr.heap.size=B4:=⟨_,rfl⟩;rw[Q] at E;have HV:=qa2 ai Q;have HY:Hid (∀A,Below H.heap.size H A->(A.cell? ⟨B4,1,none⟩=some (.int .i64 v.l)/\A.cell? ⟨B4,2,none⟩=some (.int .i64 v.b)/\A.cell? ⟨B4,3,none⟩=some (.int .i64 v.n)/\B4<A.heap.size)/\(w.heap.size<A.heap.size/\A.cell? ⟨w.heap.size,0,none⟩=some (.slice p.ab p.nb p.cb)/\A.cell? ⟨w.heap.size,1,none⟩=some (.slice p.sa p.ns p.cs))/\Below M.heap.size M A/\Below w.heap.size w A):=
   λA h=>⟨⟨(E.below h).k 1,(E.below h).k 2,(E.below h).k 3,(E.below h).lt⟩,(HC.out A (G.trans (h.mono G.size))).1.1,G.trans (h.mono G.size),(HC.out A (G.trans (h.mono G.size))).2.2.2⟩
  clear E G f ai Q;go_wp2_with fail;rw[HV.out.1];refine(ua p v.o H les a7).mono ?_;rintro e w2 ⟨rfl,V⟩;rw[HV.out.2];clear d0 d1 l1 l2 hb B z0 z1 z2 z3 c3 HV;obtain⟨⟨t1,t2,t3,l4⟩,⟨l1,d0,d1⟩,ao,f⟩:=HY.out w2 V;cases x:inB v.o 0 ((p.ns:Int)-1)
  .have d:Hid (dc p s=false):=m.out (by rw[t.out,x];rfl);clear t m u x;go_wp2_with fail;go_ret;exact⟨by rw[d.out];rfl,f⟩
  go_wp2_with fail;refine(zi p v.l w2 leb ak).mono ?_;rintro e w3 ⟨rfl,au⟩;have au:=V.trans (au.mono V.size);clear V t1 t2 t3 l4 l1 d0 d1 ao f;obtain⟨⟨t1,t2,t3,l4⟩,⟨l1,d0,d1⟩,ao,f⟩:=HY.out w3 au;cases F:inB v.l 0 ((p.nb:Int)-1)
  .have d:Hid (dc p s=false):=m.out (by rw[t.out,x,F];rfl);clear t m u x F;go_wp2_with fail;go_ret;exact⟨by rw[d.out];rfl,f⟩
  go_wp2_with fail;refine(zi p v.b w3 leb ak).mono ?_;rintro e w4 ⟨rfl,Q⟩;have Q:=au.trans (Q.mono au.size);clear au t1 t2 t3 l4 l1 d0 d1 ao f;obtain⟨⟨t1,t2,t3,l4⟩,⟨l1,d0,d1⟩,ao,f⟩:=HY.out w4 Q;cases L:inB v.b 0 ((p.nb:Int)-1)
  .have d:Hid (dc p s=false):=m.out (by rw[t.out,x,F,L];rfl);clear t m u x F L;go_wp2_with fail;go_ret;exact⟨by rw[d.out];rfl,f⟩
  cases k4:(v.l==v.b)
  .cases k5:inB v.n 1 200
   .have d:Hid (dc p s=false):=m.out (by rw[t.out,x,F,L,k4,k5];rfl);clear t m u x F L;go_wp2_with(go_at_call 23;refine ah (ce _ _ _ _) ?_);go_ret;exact⟨by rw[d.out];rfl,f⟩
   have d:=u.out (by rw[t.out,x,F,L,k4,k5];rfl);have an:Hid _:=d;clear t m u x F L d;go_wp2_with(go_at_call 23;refine ah (ce _ _ _ _) ?_);go_roundw
   case rel=>exact⟨k+1,by omega,by go_num,an.out,ao⟩
   case measure=>simp[intOf];omega
  have d:Hid (dc p s=false):=m.out (by rw[t.out,x,F,L,k4];rfl);clear t m u x F L;go_wp2_with fail;go_ret;exact⟨by rw[d.out];rfl,f⟩
 have cj:Hid (∀j,j<s.ms.n->lx p (s.ms.z j)=false):=λj hj=>P.out j (by omega);clear P;by_cases n1:s.si.n=p.ns;rotate_left
 .have d:Hid (dc p s=false):=aam n1;have m1:((s.si.n:Int) !=(p.ns:Int))=true:=by simp;omega
  clear r D S c1 c2 c5 c6;go_wp2_with fail;go_ret;exact⟨by rw[d.out];rfl,f⟩
 by_cases n2:s.so.n=p.ns;rotate_left
 .have d:Hid (dc p s=false):=aan n2;have m1:((s.si.n:Int) !=(p.ns:Int))=false:=by simp[n1]
  have m2:((s.so.n:Int) !=(p.ns:Int))=true:=by simp;omega
  clear r D S c1 c2 c6 n1;go_wp2_with fail;go_ret;exact⟨by rw[d.out];rfl,f⟩
 by_cases n3:s.sf.n=p.ns;rotate_left
 .have d:Hid (dc p s=false):=aao n3;have m1:((s.si.n:Int) !=(p.ns:Int))=false:=by simp[n1]
  have m2:((s.so.n:Int) !=(p.ns:Int))=false:=by simp[n2]
  have m3:((s.sf.n:Int) !=(p.ns:Int))=true:=by simp;omega
  clear r D S c1 c2 n1 n2;go_wp2_with fail;go_ret;exact⟨by rw[d.out];rfl,f⟩
 have W:=qa3 n1 n2 n3;have q1:=r.si.le;have q2:=r.si.cap;have q3:=r.so.le;have q4:=r.so.cap;have q5:=r.sf.le;have q6:=r.sf.cap;unfold maxLen at q2 q4 q6;rw[n1] at c4 q1;rw[n2] at c5 q3;rw[n3] at c6 q5;clear n1 n2 n3 r D S c1 c2 f;go_wp2_with fail;clear c3 c4 c5 c6 d0 d1 l1 l2 y hk
 go_loopw [12] (λi A=>∃k:Nat,k<=p.ns/\i = .int .i64 k/\(∀j,j<k->Mu s j=true)/\Below M.heap.size M A) (λi _=>p.ns-(intOf i).toNat)
 case atStart=>exact⟨0,Qxz _,rfl,λj hj=>absurd hj (Qzq _),B⟩
 clear B;obtain⟨g,hg,rfl,J,B⟩:=hrel;have P:=hid J;clear J;obtain⟨X,D,r,f⟩:=HC.out wr B;obtain⟨⟨l1,d0,d1⟩,l2,S,c1,c2,c3,c4,c5,c6⟩:=X;by_cases y:g<p.ns;rotate_left
 .have d:Hid (dc p s=true):=abn c8.out H0.out cw.out cj.out W.out (λj hj=>P.out j (by omega));clear r D S c1 c2 c3 c4 c5 c6 P;go_wp2_with fail;go_ret;exact⟨by rw[d.out];rfl,f⟩
 obtain⟨b1,o1,e1,g1,z1⟩:=r.si.ints g (by rw[W.out.1];exact y);obtain⟨b2,o2,e2,g2,z2⟩:=r.so.ints g (by rw[W.out.2.1];exact y);obtain⟨b3,o3,e3,g3,z3⟩:=r.sf.ints g (by rw[W.out.2.2];exact y);have qq:(0:Int)<=(g:Int):=by omega
 rw[e1,W.out.1] at c4;rw[e2,W.out.2.1] at c5;rw[e3,W.out.2.2] at c6;have m:Hid (inB (s.si.z g) 0 1048576=false->dc p s=false):=λh=>Qz (.inl (Fk W.out.1 y h));have u:Hid (inB (s.so.z g) 0 1048576=false->dc p s=false):=λh=>Qz (.inr (.inl (Fk W.out.2.1 y h)));have a1:Hid (inB (s.sf.z g) (-1048576) 1048576=false->dc p s=false):=λh=>Qz (.inr (.inr (Fk W.out.2.2 y h)));have az:Hid (inB (s.si.z g) 0 1048576=true->inB (s.so.z g) 0 1048576=true->inB (s.sf.z g) (-1048576) 1048576=true->∀j',j'<g+1->Mu s j'=true):=λh1 h2 h3=>vp P.out (by unfold Mu;rw[h1,h2,h3];rfl);clear e1 e2 e3 r D S c1 c2 c3 P
 generalize s.si.z g=I1 at *
 generalize s.so.z g=I2 at *
 generalize s.sf.z g=I3 at *
 cases x:inB I1 0 1048576
 .have d:Hid (dc p s=false):=m.out x;clear m u a1 az;go_wp2_with(go_at_call 23;refine ah (ce _ _ _ _) ?_);go_ret;exact⟨by rw[d.out];rfl,f⟩
 cases F:inB I2 0 1048576
 .have d:Hid (dc p s=false):=u.out F;clear m u a1 az;go_wp2_with(go_at_call 23;refine ah (ce _ _ _ _) ?_);go_ret;exact⟨by rw[d.out];rfl,f⟩
 cases L:inB I3 (-1048576) 1048576
 .have d:Hid (dc p s=false):=a1.out L;clear m u a1 az;go_wp2_with(go_at_call 23;refine ah (ce _ _ _ _) ?_);go_ret;exact⟨by rw[d.out];rfl,f⟩
 have d:=az.out x F L;have an:Hid _:=d;clear m u a1 az d;go_wp2_with(go_at_call 23;refine ah (ce _ _ _ _) ?_);go_roundw
 case rel=>exact⟨g+1,by omega,by go_num,an.out,B⟩
 case measure=>simp[intOf];omega
theorem Xv{s:St}(h:4<s.os.n):fs s=true:=by
 have:decide (4<s.os.n)=true:=decide_eq_true h;simp[fs,this]
theorem Zr{s:St}(h:8<s.ms.n):fs s=true:=by
 have:decide (8<s.ms.n)=true:=decide_eq_true h;simp[fs,this]
theorem Zq{s:St}{i:Nat}(hi:i<s.os.n)(h:inB (s.os.z i).ls.n 1 3=false):fs s=true:=by
 have:aw s.os.n (λi=>p9 (s.os.z i))=true:=dt hi (by unfold p9;rw[h];rfl);simp[fs,this]
theorem ach{s:St}(c:¬4<s.os.n)(e:¬8<s.ms.n)(b:∀i,i<s.os.n->inB (s.os.z i).ls.n 1 3=true):fs s=false:=by
 have a:decide (4<s.os.n)=false:=decide_eq_false c;have f:decide (8<s.ms.n)=false:=decide_eq_false e;have d:aw s.os.n (λi=>p9 (s.os.z i))=false:=ct λi hi=>by unfold p9;rw[b i hi];rfl
 unfold fs;rw[a,f,d]
 rfl
theorem Zo{p:Pl}{s:St}(h:¬ev p s.on=0):ag p s=ev p s.on:=by unfold ag;rw[if_neg h]
theorem Nw{p:Pl}{s:St}(h:ev p s.on=0)(a:fs s=true):ag p s=2:=by unfold ag;rw[if_pos h,a];rfl
theorem aax{p:Pl}{s:St}(h:ev p s.on=0)(b:fs s=false)(a:dc p s=false):ag p s=1:=by
 have e:(jf p s||gj p s||j8 p s||fj p s)=true:=by
  cases c:(jf p s||gj p s||j8 p s||fj p s)
  .rw[dc,c] at a;cases a
  rfl
 unfold ag;rw[if_pos h,b,e];rfl
theorem So{p:Pl}{s:St}(h:ev p s.on=0)(b:fs s=false)(a:dc p s=true):cv p s:=by
 have e:(jf p s||gj p s||j8 p s||fj p s)=false:=by
  cases c:(jf p s||gj p s||j8 p s||fj p s)
  .rfl
  rw[dc,c] at a;cases a
 simp only[Xxq] at e;exact formed h b e.1.1.1 e.1.1.2 e.1.2 e.2
theorem abx{p:Pl}{s:St}(h:ev p s.on=0)(b:fs s=false)(a:dc p s=true):ag p s=if ja p s then 0 else 7:=by
 have e:(jf p s||gj p s||j8 p s||fj p s)=false:=by
  cases c:(jf p s||gj p s||j8 p s||fj p s)
  .rfl
  rw[dc,c] at a;cases a
 unfold ag ja;rw[if_pos h,b,e];cases (kw p s||je s)<;>rfl
theorem kf(p:Pl)(s:St)(w:World)(hp:p.At w)(hs:s.At w):
  Calls prog 19 #[p.val,s.val] w λe w'=>e = .returned (.int .i64 (ag p s))/\Below w.heap.size w w':=by
 obtain⟨G,hW,ai,X0⟩:=Ih w p s;have B:=Gd hp hs ai X0;have U:=hid hW;have ar:=hs.os.le;have S:=hs.os.cap;have au:=hs.ms.le;have Q:=hs.ms.cap;unfold maxLen at S Q;clear hW X0 hp hs;unfold Pl.val St.val;go_enter func19,ntmps19;go_wp2_with fail;rw[U.out];obtain⟨X,d,c,a⟩:=B.out G brf;refine(Jj p s.on G d c.on).mono ?_;rintro e w1 ⟨rfl,l⟩;clear X d c a U;obtain⟨X,d,c,a⟩:=B.out w1 l;obtain⟨⟨A,u,t⟩,v,r,c1,c2,c3,c4,c5,c6⟩:=X;by_cases D:ev p s.on=0;rotate_left
 .have g:Hid (ag p s=ev p s.on):=Zo D;clear d c;go_wp2_with fail;go_ret;exact⟨by rw[g.out];rfl,a⟩
 have m:=hid D;rw[D];clear D d c;by_cases n1:4<s.os.n
 .have g:Hid (ag p s=2):=Nw m.out (Xv n1);have M:(4:Int)<(s.os.n:Int):=by omega
  go_wp2_with fail;go_ret;exact⟨by rw[g.out];rfl,a⟩
 by_cases n2:8<s.ms.n
 .have g:Hid (ag p s=2):=Nw m.out (Zr n2);have M:¬(4:Int)<(s.os.n:Int):=by omega
  have ae:(8:Int)<(s.ms.n:Int):=by omega
  go_wp2_with fail;go_ret;exact⟨by rw[g.out];rfl,a⟩
 have M:¬(4:Int)<(s.os.n:Int):=by omega
 have ae:¬(8:Int)<(s.ms.n:Int):=by omega
 go_wp2_with fail;clear r c1 c2 c3 c4 c5 c6 u t A v a
 go_loopw [6] (λi wk=>∃k:Nat,k<=s.os.n/\i = .int .i64 k/\(∀j,j<k->inB (s.os.z j).ls.n 1 3=true)/\Below G.heap.size G wk) (λi _=>s.os.n-(intOf i).toNat)
 case atStart=>exact⟨0,Qxz _,rfl,λj Y=>absurd Y (Qzq _),l⟩
 clear l;obtain⟨i,hi,rfl,H,l⟩:=hrel;have HN:=hid H;clear H;obtain⟨X,d,c,a⟩:=B.out wr l;obtain⟨⟨A,u,t⟩,v,r,c1,c2,c3,c4,c5,c6⟩:=X;by_cases L:i<s.os.n
 .obtain⟨b,o,J,hb,z0,z1,hl⟩:=c.os.ods i L;have qi:(0:Int)<=(i:Int):=by omega
  have y:Hid (inB (s.os.z i).ls.n 1 3=false->ag p s=2):=λh=>Nw m.out (Zq L h);have x:Hid (inB (s.os.z i).ls.n 1 3=true->∀j,j<i+1->inB (s.os.z j).ls.n 1 3=true):=λh=>vp (f:=λj=>inB (s.os.z j).ls.n 1 3) HN.out h;rw[J] at c1;clear J hl d c r c2 c3 c4 c5 c6 u t z0
  generalize (s.os.z i).ls=LS at *
  cases W:inB LS.n 1 3
  .have g:Hid (ag p s=2):=y.out W;clear y x;go_wp2_with(go_at_call 23;refine ah (ce _ _ _ _) ?_);go_ret;exact⟨by rw[g.out];rfl,a⟩
  have g:=x.out W;have af:Hid _:=g;clear y x g;go_wp2_with(go_at_call 23;refine ah (ce _ _ _ _) ?_);go_roundw
  case rel=>exact⟨i+1,by omega,by go_num,af.out,l⟩
  case measure=>simp[intOf];omega
 have q:Hid (fs s=false):=ach n1 n2 λj Y=>HN.out j (by omega);go_wp2_with fail;refine(Uj p s wr d c m.out q.out).mono ?_;rintro e w2 ⟨rfl,P⟩;have l:=l.trans (P.mono l.size);clear d c a A u t v r c1 c2 c3 c4 c5 c6 P;obtain⟨X,d,c,a⟩:=B.out w2 l;obtain⟨⟨A,u,t⟩,v,r,c1,c2,c3,c4,c5,c6⟩:=X;cases F:dc p s
 .have g:Hid (ag p s=1):=aax m.out q.out F;clear d c;go_wp2_with fail;go_ret;exact⟨by rw[g.out];rfl,a⟩
 have V:Hid (cv p s):=So m.out q.out F;have E:Hid (ag p s=if ja p s then 0 else 7):=abx m.out q.out F;clear F;go_wp2_with fail;refine(Vj p s w2 d c V.out).mono ?_;rintro e w3 ⟨rfl,K⟩;have a:=a.trans (K.mono a.size);clear d c A u t v r c1 c2 c3 c4 c5 c6 K;cases T:ja p s
 .have g:Hid (ag p s=7):=by show ag p s=7;rw[E.out,T];rfl
  clear E;go_wp2_with fail;go_ret;exact⟨by rw[g.out];rfl,a⟩
 have g:Hid (ag p s=0):=by show ag p s=0;rw[E.out,T];rfl
 clear E;go_wp2_with fail;go_ret;exact⟨by rw[g.out];rfl,a⟩
theorem El{p:Pl}{s:St}{bin good n:Int}(h:¬ag p s=0):gt p s bin good n=ag p s:=by unfold gt;rw[if_neg h]
theorem ux{p:Pl}{s:St}{bin good n:Int}(h:ag p s=0)(a:(inB bin 0 ((p.nb:Int)-1)&&inB good 0 ((p.ns:Int)-1)&&inB n 1 200)=false):gt p s bin good n=3:=by unfold gt;rw[if_pos h,a];rfl
theorem Mn{p:Pl}{s:St}{b g:Nat}{n:Int}(h:ag p s=0)(d:b<p.nb)(e:g<p.ns)(a:inB n 1 200=true)(c:fw p s b<n*p.zs g):gt p s b g n=5:=by
 unfold gt;simp only[Int.toNat_natCast];rw[if_pos h,bq (by omega),bq (by omega),a,if_pos (by decide),if_pos c]
theorem Mo{p:Pl}{s:St}{b g:Nat}{n:Int}(h:ag p s=0)(e:b<p.nb)(f:g<p.ns)(a:inB n 1 200=true)(c:¬fw p s b<n*p.zs g)(d:200<dw s b g+n\/1048576<s.si.z g+n):gt p s b g n=2:=by
 unfold gt;simp only[Int.toNat_natCast];rw[if_pos h,bq (by omega),bq (by omega),a,if_pos (by decide),if_neg c,if_pos d]
theorem Ri{p:Pl}{s:St}{b g:Nat}{n:Int}(h:ag p s=0)(e:b<p.nb)(f:g<p.ns)(a:inB n 1 200=true)(c:¬fw p s b<n*p.zs g)(d:¬(200<dw s b g+n\/1048576<s.si.z g+n)):gt p s b g n=0:=by
 unfold gt;simp only[Int.toNat_natCast];rw[if_pos h,bq (by omega),bq (by omega),a,if_pos (by decide),if_neg c,if_neg d]
theorem Q3{p:Pl}{s:St}(f:cv p s){b:Nat}(c:b<p.nb): -30000<=fw p s b/\fw p s b<=1000:=by
 have a:b<s.on.n:=by rw[f.sh.n];exact c
 have g:=wn (z:=(s.on.r b).z) (zs:=p.zs) (n:=p.ns) (λj d=>⟨f.sh.num b a j d,f.sh.pl.sizes j d⟩) p.ns nlr;have e:=D1 f (b:Int) s.ms.n nlr;have room:0<=(p.zb b).room/\(p.zb b).room<=1000:=by
  have:=f.sh.pl.bins b c;simp only[qf,Xxq,Bool.not_eq_false'] at this;exact aq this.1.1
 have:=f.ms8;have:=f.sh.pl.ns3;unfold fw;omega
theorem Ka(p:Pl)(s:St)(bin good n:Int)(w:World)(hp:p.At w)(hs:s.At w):
  Calls prog 53 #[p.val,s.val,.int .i64 bin,.int .i64 good,.int .i64 n] w λe Y=>∃s':St,e = .returned (.tuple #[s'.val,.int .i64 (gt p s bin good n)])/\s'.At Y/\du (gt p s bin good n) (li s bin.toNat good.toNat n) s'/\(gt p s bin good n=0->ai w.heap.size Y s')/\Below w.heap.size w Y:=by
 obtain⟨W0,hW,en,X0,Z0⟩:=Ab w p s;have HC:=yu hp hs en X0 Z0;have HW:=hid hW;have leb:=hp.leb;have bu:=hp.capb;have les:=hp.les;have bt:=hp.caps;have capb:=bu;have caps:=bt;have fr:=Z0.lt;unfold maxLen at capb caps;clear hW X0 Z0 hp hs;unfold Pl.val St.val;go_enter func53,ntmps53;go_wp2_with fail;rw[HW.out];obtain⟨X,q,i,f,l⟩:=HC.out W0 brf;refine(kf p s W0 q i).mono ?_;rintro e w1 ⟨rfl,m⟩;clear X q i f l HW;obtain⟨⟨⟨l1,d0,d1⟩,l2,F,c1,c2,c3,c4,c5,c6⟩,q,i,f,l⟩:=HC.out w1 m;by_cases h0:ag p s=0;rotate_left
 .have E:Hid (gt p s bin good n=ag p s):=El h0;clear q i F c1 c2 c3 c4 c5 c6;obtain⟨zl,U,aj,an,zc1,W,zc2,ao,zc3,S,zc4,al,zc5,aa,ac⟩:=z7 l;go_wp2_with fail;exact gz results53 l f (by omega) E.out h0 rfl rfl rfl
 have H0:=hid h0;have D:Hid (cv p s):=(ed h0).fm;rw[h0];clear h0 F c1 c2 c3 c4 c5 c6 i;go_wp2_with fail;refine(zi p bin w1 leb bu).mono ?_;rintro e w2 ⟨rfl,J⟩;have m:=m.trans (J.mono m.size);clear l1 d0 d1 l2 q f l J;obtain⟨⟨⟨l1,d0,d1⟩,l2,F,c1,c2,c3,c4,c5,c6⟩,q,i,f,l⟩:=HC.out w2 m;clear F c1 c2 c3 c4 c5 c6 i;cases k1:inB bin 0 ((p.nb:Int)-1)
 .have E:Hid (gt p s bin good n=3):=ux H0.out (by rw[k1];rfl);clear k1;obtain⟨zl,U,aj,an,zc1,W,zc2,ao,zc3,S,zc4,al,zc5,aa,ac⟩:=z7 l;go_wp2_with fail;exact gz results53 l f (by omega) E.out (by decide) rfl rfl rfl
 go_wp2_with fail;refine(ua p good w2 les bt).mono ?_;rintro e w3 ⟨rfl,J⟩;have m:=m.trans (J.mono m.size);clear l1 d0 d1 l2 q f l J;obtain⟨⟨⟨l1,d0,d1⟩,l2,F,c1,c2,c3,c4,c5,c6⟩,q,i,f,l⟩:=HC.out w3 m;cases k2:inB good 0 ((p.ns:Int)-1)
 .have E:Hid (gt p s bin good n=3):=ux H0.out (by rw[k1,k2];rfl);clear k1 k2 F c1 c2 c3 c4 c5 c6 i;obtain⟨zl,U,aj,an,zc1,W,zc2,ao,zc3,S,zc4,al,zc5,aa,ac⟩:=z7 l;go_wp2_with fail;exact gz results53 l f (by omega) E.out (by decide) rfl rfl rfl
 cases k3:inB n 1 200
 .have E:Hid (gt p s bin good n=3):=ux H0.out (by rw[k1,k2,k3];rfl);clear k1 k2 F c1 c2 c3 c4 c5 c6 i;obtain⟨zl,U,aj,an,zc1,W,zc2,ao,zc3,S,zc4,al,zc5,aa,ac⟩:=z7 l;go_wp2_with(go_at_call 23;refine ah (ce _ _ _ _) ?_);exact gz results53 l f (by omega) E.out (by decide) rfl rfl rfl
 obtain⟨b,rfl⟩:=Qzz (aq k1).1;obtain⟨g,rfl⟩:=Qzz (aq k2).1;have hb:b<p.nb:=by have:=(aq k1).2;omega
 have x:g<p.ns:=by have:=(aq k2).2;omega
 have hn:=aq k3;have K3:=hid k3;have pz:=D.out.sh.pl.sizes g x;have fb:=Q3 D.out hb;have mb:=Da (a:=n) (b:=p.zs g) ⟨by omega,hn.2⟩ pz;have qb:(0:Int)<=(b:Int):=by omega
 have qg:(0:Int)<=(g:Int):=by omega
 obtain⟨bz,oz,cx,bv,y0⟩:=q.sizes g x;have t:=qa3 cx q i;rw[cx] at d1;have r0:=Qqq d0;have r1:=Qqq d1;have r2:=Qqq y0;have s0:=Qqq F;have s1:=Qqq c1;have s2:=Qqq c2;have s3:=Qqq c3;have s4:=Qqq c4;have s5:=Qqq c5;have s6:=Qqq c6;have di:Hid (∀H,p.At H->s.At H->Calls prog 115 #[.agg #[.slice p.ab p.nb p.cb,.slice (some ⟨bz,oz,none⟩) p.ns p.cs],.agg #[.slice s.on.a s.on.n s.on.c,.slice s.os.a s.os.n s.os.c,.slice s.hs.a s.hs.n s.hs.c,.slice s.ms.a s.ms.n s.ms.c,.slice s.si.a s.si.n s.si.c,.slice s.so.a s.so.n s.so.c,.slice s.sf.a s.sf.n s.sf.c],.int .i64 b] H λe Y=>e = .returned (.int .i64 (fw p s b))/\Below H.heap.size H Y):=λH h1 h2=>by
  have:=Ld p s b H h1 h2 D.out hb;rw[Pl.val,t.out.1] at this;exact this
 have e0:Hid (fw p s b<n*p.zs g->gt p s b g n=5):=λh=>Mn H0.out hb x K3.out h;have de:Hid (¬fw p s b<n*p.zs g->(200<dw s b g+n\/1048576<s.si.z g+n)->gt p s b g n=2):=λh h2=>Mo H0.out hb x K3.out h h2;have e6:Hid (¬fw p s b<n*p.zs g->¬(200<dw s b g+n\/1048576<s.si.z g+n)->gt p s b g n=0):=λh h2=>Ri H0.out hb x K3.out h h2;clear k1 k2 cx q i F c1 c2 c3 c4 c5 c6 d0 d1 y0
 generalize fw p s b=FR at *
 generalize p.zs g=PZ at *
 go_wp2_with(go_at_call 23;refine ah (ce _ _ _ _) ?_);refine Qxq (by kernel_rfl) (by kernel_rfl) ?_
 repeat(go_big_quiet_step((go_at_call 115;exact Xxz (di.out _ (t.out.2.1.below (Qxx _ _ _)) (t.out.2.2.below (Qxx _ _ _))))))
 refine Qqz ?_;intro _ ak;obtain⟨⟨dq,y⟩,L⟩:=ak;subst L;have m:=m.trans ((Qxx w3 dq y).mono m.size);clear r0 r1 r2 s0 s1 s2 s3 s4 s5 s6 di t f l l1 l2 bv
 generalize grow (redrawn w3 dq) y=w4 at *
 obtain⟨⟨⟨l1,d0,d1⟩,l2,F,c1,c2,c3,c4,c5,c6⟩,q,i,f,l⟩:=HC.out w4 m;by_cases h5:FR<n*PZ
 .have E:Hid (gt p s b g n=5):=e0.out h5;clear q i F c1 c2 c3 c4 c5 c6;obtain⟨zl,U,aj,an,zc1,W,zc2,ao,zc3,S,zc4,al,zc5,aa,ac⟩:=z7 l;go_wp2_with fail;exact gz results53 l f (by omega) E.out (by decide) rfl rfl rfl
 have a0:b<s.on.n:=by rw[D.out.sh.n];exact hb
 obtain⟨bo,oo,cl,ge,y0,a5⟩:=i.on.rows b a0;have K:=D.out.sh.len b a0;obtain⟨br,gd,dm,gh,y1⟩:=a5.ints g (by rw[K];exact x);obtain⟨bi,oi,cj,gc,y2⟩:=i.si.ints g (by rw[D.out.sin];exact x);have v1:=a5.le;have v2:=a5.cap;have v3:=i.on.le;have v4:=i.on.cap;have v5:=i.si.le;have v6:=i.si.cap;have u1:=D.out.sh.num b a0 g x;have u2:=lj (s:=s) (b:=b) (g:=g) D.out.moveN;have u3:=D.out.sib g x;have ms8:=D.out.ms8;have gj:g<s.si.n:=by rw[D.out.sin];exact x
 unfold maxLen at v2 v4 v6;have t:=qa3 i cl cj;rw[dm,K] at y0;rw[K] at v1;rw[cl] at F;rw[cj] at c4;have s0:=Qqq F;have s1:=Qqq c1;have s2:=Qqq c2;have s3:=Qqq c3;have s4:=Qqq c4;have s5:=Qqq c5;have s6:=Qqq c6;have r1:=Qqq y0;have r2:=Qqq y1;have r3:=Qqq y2;have a1:Hid (∀H,s.At H->Calls prog 116 #[.agg #[.slice (some ⟨bo,oo,none⟩) s.on.n s.on.c,.slice s.os.a s.os.n s.os.c,.slice s.hs.a s.hs.n s.hs.c,.slice s.ms.a s.ms.n s.ms.c,.slice (some ⟨bi,oi,none⟩) s.si.n s.si.c,.slice s.so.a s.so.n s.so.c,.slice s.sf.a s.sf.n s.sf.c],.int .i64 b,.int .i64 g] H λe Y=>e = .returned (.int .i64 (bj s b g s.ms.n))/\Below H.heap.size H Y):=λH h=>by
  have:=Cd p s b g H h D.out;rw[St.val,t.out.2.1,t.out.2.2] at this;exact this
 have dc:Hid (dw s b g=(s.on.r b).z g+bj s b g s.ms.n):=rfl;have cm:0<=bj s b g s.ms.n/\bj s b g s.ms.n<=1600:=by omega
 have ff:Hid (li s b g n=setIn (setOn s b g ((s.on.r b).z g+n)) g (s.si.z g+n)):=rfl;clear cl dm cj a5 K q i F c1 c2 c3 c4 c5 c6 y0 y1 y2 d0 d1 u2
 generalize bj s b g s.ms.n=CM at *
 generalize a7:(s.on.r b).z g=M at *
 have e1:=hid a7;clear a7
 generalize (s.on.r b).c=RC at *
 generalize bf:s.si.z g=Q at *
 have df:=hid bf;clear bf;by_cases h6:200<M+CM+n
 .have E:Hid (gt p s b g n=2):=de.out (by omega) (.inl (by rw[dc.out];exact h6));have d6:decide (200<M+CM+n)=true:=decide_eq_true h6;go_wp2_with fail;refine Qxq (by kernel_rfl) (by kernel_rfl) ?_
  repeat(go_big_quiet_step((go_at_call 116;exact Xxz (a1.out _ (t.out.1.below (Qxx _ _ _))))))
  refine Qqz ?_;intro _ ak;obtain⟨⟨dq,y⟩,L⟩:=ak;subst L;have m:=m.trans ((Qxx w4 dq y).mono m.size);clear r1 r2 r3 s0 s1 s2 s3 s4 s5 s6 a1 t f l l1 l2
  generalize grow (redrawn w4 dq) y=w5 at *
  obtain⟨-,-,-,f,l⟩:=HC.out w5 m;obtain⟨zl,U,aj,an,zc1,W,zc2,ao,zc3,S,zc4,al,zc5,aa,ac⟩:=z7 l;go_wp2_with fail;exact gz results53 l f (by omega) E.out (by decide) rfl rfl rfl
 by_cases h7:1048576<Q+n
 .have E:Hid (gt p s b g n=2):=de.out (by omega) (.inr h7);have d6:decide (200<M+CM+n)=false:=decide_eq_false h6;have d7:decide (1048576<Q+n)=true:=decide_eq_true h7;go_wp2_with fail;refine Qxq (by kernel_rfl) (by kernel_rfl) ?_
  repeat(go_big_quiet_step((go_at_call 116;exact Xxz (a1.out _ (t.out.1.below (Qxx _ _ _))))))
  refine Qqz ?_;intro _ ak;obtain⟨⟨dq,y⟩,L⟩:=ak;subst L;have m:=m.trans ((Qxx w4 dq y).mono m.size);clear r1 r2 r3 s0 s1 s2 s3 s4 s5 s6 a1 t f l l1 l2
  generalize grow (redrawn w4 dq) y=w5 at *
  obtain⟨-,-,-,f,l⟩:=HC.out w5 m;obtain⟨zl,U,aj,an,zc1,W,zc2,ao,zc3,S,zc4,al,zc5,aa,ac⟩:=z7 l;go_wp2_with fail;exact gz results53 l f (by omega) E.out (by decide) rfl rfl rfl
 have E:Hid (gt p s b g n=0):=e6.out (by omega) (by rw[dc.out];omega);have d6:decide (200<M+CM+n)=false:=decide_eq_false h6;have d7:decide (1048576<Q+n)=false:=decide_eq_false h7;go_wp2_with fail;refine Qxq (by kernel_rfl) (by kernel_rfl) ?_
 repeat(go_big_quiet_step((go_at_call 116;exact Xxz (a1.out _ (t.out.1.below (Qxx _ _ _))))))
 refine Qqz ?_;intro _ ak;obtain⟨⟨dq,y⟩,L⟩:=ak;subst L;have m:=m.trans ((Qxx w4 dq y).mono m.size);clear r1 r2 r3 s0 s1 s2 s3 s4 s5 s6 a1 t f l l1 l2
 generalize grow (redrawn w4 dq) y=w5 at *
 obtain⟨⟨⟨l1,d0,d1⟩,l2,F,c1,c2,c3,c4,c5,c6⟩,q,i,f,l⟩:=HC.out w5 m;go_wp2_with fail;have d5:=hid f.size;refine(ny p s w5 i D.out).mono ?_;rintro e w6 ⟨o,rfl,u,b7,J⟩;have a2:b<o.on.n:=by rw[u.on.1];exact a0
 obtain⟨x1,x2⟩:=u.on.2 b a2;have K:(o.on.r b).n=p.ns:=by rw[x1];exact D.out.sh.len b a0
 have a7:(o.on.r b).z g=M:=by rw[x2 g (by rw[K];exact x)];exact e1.out
 have bk:o.si.n=p.ns:=by rw[u.si.1];exact D.out.sin
 have bf:o.si.z g=Q:=by rw[u.si.2 g (by rw[bk];exact x)];exact df.out
 have bq:=hid bk;have cr:=hid u;have fe:Hid (ae (setIn (setOn o b g (M+n)) g (Q+n)) (li s b g n)):=by
  show ae _ (li s b g n);rw[ff.out];exact Gp (xr u _ _ _) _ _
 obtain⟨W7,dd,bp,K7⟩:=ab7 w6 o;have dk:=hid dd;obtain⟨dn,bl⟩:∃B,w6.heap.size=B:=⟨_,rfl⟩;have q6:=m.size;have q7:=J.size;have gf:W0.heap.size<=dn:=by omega
 rw[bl] at K7;have b6:=hid bl;have dh:=(m.trans (J.mono m.size)).trans (bp.mono (m.trans (J.mono m.size)).size);have P:=ai.below b7 bp;obtain⟨gg,ga,gA,g1,g2,gk⟩:=P.on;obtain⟨Gb,ra,rA,e5,ef,rk⟩:=P.rows b a2;obtain⟨Gi,ia,iA,eq,ex,T⟩:=P.si;have ey:=qa7 P ga ra ia rA iA K7;obtain⟨m7,p0,p1,p2,p3,p4,p5,p6⟩:=Boxed.of K7;rw[ga] at p0;rw[ia] at p4;have y0:=gk.cell (j:=b) a2;rw[ra,K] at y0;have y1:=rk.cell (j:=g) (by rw[K];exact x);rw[a7] at y1;have y2:=T.cell (j:=g) (by rw[bk];exact x);rw[bf] at y2;have t0:=Qqq p0;have t1:=Qqq y0;have t2:=Qqq y1;have v1:=g1;have v2:=g2;have v3:=e5;have v4:=ef;rw[K] at v3;unfold maxLen at v2 v4;unfold maxLen at ex;rw[bk] at eq;clear P b7 gk rk T K7 bp dd bl p0 p1 p2 p3 p4 p5 p6 y0 y1 y2 ga ra ia q i F c1 c2 c3 c4 c5 c6 x1 x2 J l f a7 bf u K bk;simp only[St.val];go_wp2_with fail;rw[dk.out,b6.out];clear dk b6;refine jt (λY=>∃p:Regrown,Y=grow (redrawn W7 p.d) p.os) (List.range 17) [] [(true,17)] (Qqx (brf.drew)) ?_;rw[show List.range 17=[0,1,2,3,4,5,6,7,8,9,10,11,12,13,14,15,16] from rfl];simp only[dv,Qyq,Xqq,Qyx,Qyz,Xqz,Xqx]
 repeat(go_big_quiet_step(fail))
 refine Qqz ?_;clear t0 t1 t2;refine⟨λ_ _ _ _=>True,Qjq _,Qjq _,Qjq _,λV G H hS _ _ => ?_⟩;have hX:=af hS;obtain⟨hO,eo,ck,be,gb,gl,hK⟩:=ey.out;have hO:=ai.below hO hX;have hK:=hK.below hX;obtain⟨Gq,A,_,_,_,rk⟩:=hO.rows b a2;rw[ck] at A;simp only[Qkx,Qkz,and_true] at A;subst A;have zl:=rk.lt;have zf:=rk.frozen g;have fg:Hid ((o.on.r b).n=p.ns):=(cr.out.on.2 b a2).1.trans (D.out.sh.len b a0);have zc:=rk.cell (j:=g) (by rw[fg.out];exact x);have q8:=hX.size;have dg:=dh.trans (hX.mono dh.size);have q9:=m.size;have bg:=dg.setCell (p:=⟨Gb,g,none⟩) (by show W0.heap.size<=Gb;omega) (.int .i64 (M+n));have bd:=ai.setOn hO a2 ck g (M+n);have a6:=hK.other (a:=⟨Gb,g,none⟩) (Blk.ne2 hK rk (by decide)) (.int .i64 (M+n));have co:=qa3 bg bd a6;clear bg bd a6 hO hK rk hX dg hS;simp only[am];refine dj 17 rfl ?_;go_wp2_with fail;refine⟨jp.yes,?_⟩;refine NoPanic.normal ?_
 generalize H.setCell { block:=Gb,off:=g } (Value.int IntKind.i64 (M+n))=W9 at *
 clear zl zf zc;obtain⟨bc,ba,a8⟩:=co.out;obtain⟨Gq,A,_,_,_,T⟩:=ba.si;rw[show(setOn o b g (M+n)).si.a=some ⟨Gi,0,none⟩ from be] at A;simp only[Qkx,Qkz,and_true] at A;subst A;have y2:=T.cell (j:=g) (by show g<o.si.n;rw[bq.out];exact x);have p4:=a8.k 4;have ci:W9.cell? ⟨dn,4,none⟩=some (.slice o.si.a o.si.n o.si.c):=p4;rw[be,bq.out] at ci;have fi:Hid (o.si.z g=Q):=(cr.out.si.2 g (by rw[bq.out];exact x)).trans df.out;have cd:W9.cell? ⟨Gi,g,none⟩=some (.int .i64 (o.si.z g)):=y2;rw[fi.out] at cd;have t0:=Qqq ci;have t1:=Qqq cd;clear bc ba a8 T y2 p4 ci cd;go_wp2_with fail;refine jt (λY=>∃p:Regrown,Y=grow (redrawn W9 p.d) p.os) (List.range 11) [] [(true,11)] (Qqx (brf.drew)) ?_;rw[show List.range 11=[0,1,2,3,4,5,6,7,8,9,10] from rfl];simp only[dv,Qyq,Xqq,Qyx,Qyz,Xqz,Xqx]
 repeat(go_big_quiet_step(fail))
 refine Qqz ?_;clear t0 t1;refine⟨λ_ _ _ _=>True,Qjq _,Qjq _,Qjq _,λV G ev hS _ _ => ?_⟩;have hX:=af hS;obtain⟨bc,ba,a8⟩:=co.out;have hO:=ai.below ba hX;have hK:=a8.below hX;have cg:=bc.trans (hX.mono bc.size);obtain⟨Gq,A,_,_,_,T⟩:=hO.si;rw[show(setOn o b g (M+n)).si.a=some ⟨Gi,0,none⟩ from be] at A;simp only[Qkx,Qkz,and_true] at A;subst A;have zl:=T.lt;have zf:=T.frozen g;have zc:=T.cell (j:=g) (by show g<o.si.n;rw[bq.out];exact x);have bg:=cg.setCell (p:=⟨Gi,g,none⟩) (by show W0.heap.size<=Gi;omega) (.int .i64 (Q+n));have bd:=ai.setIn hO (show(setOn o b g (M+n)).si.a=some ⟨Gi,0,none⟩ from be) g (Q+n);have a6:=hK.other (a:=⟨Gi,g,none⟩) (Blk.ne2 hK T (by decide)) (.int .i64 (Q+n));have dl:=qa3 bg bd a6;clear bg bd a6 hO hK T hX cg hS bc ba a8 co;simp only[am];refine dj 11 rfl ?_;go_wp2_with fail;refine⟨jp.yes,?_⟩;refine NoPanic.normal ?_
 generalize ev.setCell { block:=Gi,off:=g } (Value.int IntKind.i64 (Q+n))=dp at *
 clear zl zf zc;obtain⟨bs,cw,ct⟩:=dl.out;obtain⟨_,_,_,f,l⟩:=HC.out dp bs;obtain⟨m8,p0,p1,p2,p3,p4,p5,p6⟩:=Boxed.of ct;obtain⟨zl,U,aj,an,zc1,W,zc2,ao,zc3,S,zc4,al,zc5,aa,ac⟩:=z7 l;clear bs cw ct f l eo ck be hO hK;go_wp2_with fail;obtain⟨bs,cw,ct⟩:=dl.out;obtain⟨_,_,_,f,l⟩:=HC.out dp bs;have KZ:=s7b l o;have bv:=s7w (b:=w.heap.size+2) f (by omega) o;have cc:=s7o cw l o;unfold set7 at KZ bv cc;obtain⟨e2,fc,e8,es,ez,fk,fa⟩:=cn KZ;refine Xzq (v := .tuple #[(setIn (setOn o b g (M+n)) g (Q+n)).val,.int .i64 0]) (by simp[results,results53,go_sem,setIn,setOn,ku,St.val,e2,fc,e8,es,ez,fk,fa]) rfl ?_;exact⟨setIn (setOn o b g (M+n)) g (Q+n),by rw[E.out];rfl,cc.at,⟨λ_=>fe.out,λh=>absurd E.out h⟩,λ_=>cc.mono d5.out,bv⟩
structure Yh(A:Nat)(w:World)(s:Sh):Prop where
 on:∃g,s.a=some ⟨g,0,none⟩/\A<=g/\s.n<=s.c/\s.c<=maxLen/\Blk w g 23 s.n (λi => .slice (s.r i).a (s.r i).n (s.r i).c)
 rows:∀i,i<s.n->ju A w (s.r i)
 rapart:∀i j,i<j->j<s.n->(s.r i).a≠(s.r j).a
theorem Lh(p:Pl)(s:Sh)(bin good n:Int)(w:World)(hp:p.At w)(hs:s.At w)(c:Ej p s bin good n=0):
  Calls prog 91 #[p.val,s.val,.int .i64 bin,.int .i64 good,.int .i64 n] w λe w'=>∃E:Sh,e = .returned (.tuple #[E.val,.int .i64 0])/\Yh w.heap.size w' E/\E.n=s.n/\(∀i,i<s.n->(E.r i).n=(s.r i).n/\∀j,j<(s.r i).n->(E.r i).z j=Ek s bin good n i j)/\Below w.heap.size w w':=by
 have K:Below w.heap.size w (w.alloc (.cells #[.slice p.ab p.nb p.cb,.slice p.sa p.ns p.cs] 25)):=(Below.refl w.heap.size w).alloc nlr _;simp only[Pl.val,Sh.val];have ao:=hs.le;have v:=hs.cap;have W:=v;unfold maxLen at W;have V:s.n<=maxLen:=Qzx ao v;have les:=hp.les;have t:=hp.caps;have aw:p.ns<=maxLen:=Qzx les t;have caps:=t;unfold maxLen at caps;go_enter func91,ntmps91;go_wp2_with fail;refine(xt p s _ (hp.below K) (hs.below K)).mono ?_;rintro e w1 ⟨rfl,hB⟩;have d:=K.trans (hB.mono (by simp));have a4:w.heap.size<w1.heap.size:=by have:=hB.size;simp at this;omega
 have c1:w1.cell? ⟨w.heap.size,1,none⟩=some (.slice p.sa p.ns p.cs):=(hB.cell (p:=⟨w.heap.size,1,none⟩) (by simp)).trans (by simp);have F:ev p s=0:=by
  apply Classical.byContradiction
  intro F;have A:ue p s bin good=ev p s:=by simp[ue,F]
  simp[Ej,A,F] at c
 have A:=En (bin:=bin) (good:=good) F;have D:inB bin 0 ((s.n:Int)-1)=true:=by
  cases D:inB bin 0 ((s.n:Int)-1)
  .simp[Ej,A,D] at c
  rfl
 have J:inB good 0 ((p.ns:Int)-1)=true:=by
  cases J:inB good 0 ((p.ns:Int)-1)
  .simp[Ej,A,D,J] at c
  rfl
 have S:ue p s bin good=0:=by simp[A,D,J]
 clear A;obtain⟨m,rfl⟩:=Qzz (aq D).1;obtain⟨q,rfl⟩:=Qzz (aq J).1;have B:m<s.n:=by have:=(aq D).2;omega
 have hq:q<p.ns:=by have:=(aq J).2;omega
 obtain⟨pl,hn,l,H⟩:=(uq F).2;have hz:=H m B q hq;have hl:=l m B;have h6:=pl.nb6;rw[<-hn] at h6;have ag:Hid (∀i,i<s.n->1<=(s.r i).n/\(s.r i).n<=3):=λi hi=>by rw[l i hi];exact⟨pl.ns1,pl.ns3⟩
 have Q:=hs.below d;have m1:(0:Int)<=(m:Int):=by omega
 have m2:(0:Int)<=(q:Int):=by omega
 obtain⟨b,o,ha,hb,z0,u⟩:=Q.rows m B;obtain⟨b1,o1,T,a5,y0⟩:=u.ints q (by omega);rw[T] at z0;have aj:q<(s.r m).n:=by omega
 have a3:=u.le;have Y:=u.cap;unfold maxLen at Y;have X:inB n (-((s.r m).z q)) (200-(s.r m).z q)=true:=by
  cases X:inB n (-((s.r m).z q)) (200-(s.r m).z q)
  .simp[Ej,S,X] at c
  rfl
 clear c;clear pl hn l H T u S hl;obtain⟨s0,M,sc,k⟩:=s;dsimp only at *;subst ha;go_wp2_with(first|(go_at_call_of 71 (Value.int .i64 (m:Int));refine ah (dk _ _ _ V) ?_)|(go_at_call_of 71 (Value.int .i64 (q:Int));refine ah (dk _ _ _ aw) ?_)|(go_at_call 63;refine ah (ch _ _ _ _) ?_));refine(Ht ⟨some ⟨b,o,none⟩,M,sc,k⟩ w1 Q h6 ag.out).mono ?_;rintro e w2 ⟨g,G,C,rfl,hg,x,y,f,av⟩;dsimp only at x y f ⊢;obtain⟨g1,g2,g3,g4⟩:=y m B;have d0:=x.cell B;have d1:=g4.cell aj;have d2:=g4.frozen q;have a6:=aq X;unfold maxLen at g3;have ar:=d.trans (av.mono d.size);have an:w.heap.size<=G m:=by have:=d.size;omega
 have st:=ar.setCell (p:=⟨G m,q,none⟩) an (.int .i64 ((k m).z q+n));have HH:Hid _:=And.intro x (And.intro y f);clear x y f c1 y0 z0;go_wp2_with fail
 go_ret2
 obtain⟨x,y,f⟩:=HH.out;refine⟨⟨some ⟨g,0,none⟩,M,M,λi=>⟨some ⟨G i,0,none⟩,(k i).n,C i,λj=>Ek ⟨some ⟨b,o,none⟩,M,sc,k⟩ m q n i j⟩⟩,rfl,⟨⟨g,rfl,?_,Nat.le_refl _,V,?_⟩,?_,?_⟩,rfl,λi hi=>⟨rfl,λj P=>rfl⟩,st⟩
 .have:=d.size;omega
 .exact x.other (a:=⟨G m,q,none⟩) (by show g≠G m;omega) (.int .i64 ((k m).z q+n))
 rotate_left
 .intro i j al P h;have:=f i j al P;simp only[Qkx,Qkz,and_true] at h;omega
 intro i hi;have gi:=y i hi;refine⟨G i,rfl,?_,gi.2.1,gi.2.2.1,?_⟩
 .have:=d.size;omega
 by_cases L:i=m
 .subst L;refine(gi.2.2.2.set q (.int .i64 ((k i).z q+n))).congr λj P => ?_;by_cases U:j=q
  .subst U;simp[Ek]
  simp[Ek,U]
 have ae:G i≠G m:=by
  rcases Nat.lt_or_gt_of_ne L with h|h
  .have:=f i m h B;omega
  have:=f m i h hi;omega
 refine(gi.2.2.2.other (a:=⟨G m,q,none⟩) ae (.int .i64 ((k m).z q+n))).congr λj P => ?_;simp[Ek,L]
theorem Ha(p:Pl)(s:St)(bin good:Nat)(w:World)(hs:s.At w)(f:cv p s)(ah:bin<p.nb)(M:good<p.ns):
  Calls prog 89 #[s.val,.int .i64 bin,.int .i64 good] w λe w'=>e = .returned (.int .i64 (dw s bin good))/\Below w.heap.size w w':=by
 obtain⟨d,V,J,H⟩:∃d,w.alloc (.cells s.cells 31)=d/\Below w.heap.size w d/\Blk d w.heap.size 31 7 (λj=>s.cells.getD j default):=⟨_,rfl,(Below.refl w.heap.size w).alloc nlr _,Blk.mk' rfl rfl⟩;have g:=hs.below J;have F:bin<s.on.n:=by rw[f.sh.n];exact ah
 obtain⟨bo,oo,t,X,y0,m⟩:=g.on.rows bin F;have K:=f.sh.len bin F;have aw:=f.sh.num bin F good M;obtain⟨br,a5,ad,ae,y1⟩:=m.ints good (by omega);have aj:=m.le;have S:=m.cap;have av:=g.on.le;have Q:=g.on.cap;unfold maxLen at S Q;rw[ad,K] at y0;rw[K] at aj;have c0:d.cell? ⟨w.heap.size,0,none⟩=some (.slice s.on.a s.on.n s.on.c):=H.k 0;rw[t] at c0;have l0:=H.lt;have a6:=hid t;have b0:(0:Int)<=(bin:Int):=by omega
 have g0:(0:Int)<=(good:Int):=by omega
 have aq:Hid (∀k,k=s.ms.n->dw s bin good=(s.on.r bin).z good+bj s bin good k):=λk P=>by subst P;rfl
 have HC:Hid (∀x,Below d.heap.size d x->s.At x/\x.cell? ⟨w.heap.size,3,none⟩=some (.slice s.ms.a s.ms.n s.ms.c)/\w.heap.size<x.heap.size):=
  λx h=>⟨g.below h,(H.below h).k 3,(H.below h).lt⟩
 have a4:=g.ms.le;have L:=g.ms.cap;unfold maxLen at L;have m8:=f.ms8;have MB:Hid (∀k,k<=s.ms.n->0<=bj s bin good k/\bj s bin good k<=200*k):=λk P=>lj λj hj=>f.moveN j (by omega);have HW:Hid (w.alloc (.cells #[.slice (some ⟨bo,oo,none⟩) s.on.n s.on.c,.slice s.os.a s.os.n s.os.c,.slice s.hs.a s.hs.n s.hs.c,.slice s.ms.a s.ms.n s.ms.c,.slice s.si.a s.si.n s.si.c,.slice s.so.a s.so.n s.so.c,.slice s.sf.a s.sf.n s.sf.c] 31)=d):=by show _=d;rw[<-V,St.cells,t]
 have ac:=y0;have ab:=y1;have D:=X;have G:=ae;rw[<-HW.out] at ac ab D G;simp only[St.val,t];clear H V m hs g;clear t ad c0 l0 y0 y1 X ae K
 generalize (s.on.r bin).z good=ON at *
 go_enter func89,ntmps89;go_wp2_with fail;rw[HW.out];clear ac ab D G
 go_loopw [7,21] (λu i x=>∃k:Nat,k<=s.ms.n/\i = .int .i64 k/\u = .int .i64 (ON+bj s bin good k)/\Below d.heap.size d x) (λ_ i _=>s.ms.n-(intOf i).toNat)
 case atStart=>exact⟨0,Qxz _,rfl,by simp[bj],Below.refl _ _⟩
 obtain⟨k,P,rfl,rfl,T⟩:=hrel;have m2:=MB.out k P;obtain⟨Y,c3,ak⟩:=HC.out wr T;by_cases A:k<s.ms.n;rotate_left
 .have an:k=s.ms.n:=by omega
  subst an;go_wp2_with fail;go_ret;exact⟨by rw[aq.out _ rfl];rfl,J.trans (T.mono J.size)⟩
 obtain⟨b,q,W,hb,z0,z1,z2,z3⟩:=Y.ms.hds k A;have m3:=f.moveN k A;have y:Hid (((s.ms.z k).b=bin/\(s.ms.z k).o=good->bj s bin good (k+1)=bj s bin good k+(s.ms.z k).n)/\(¬((s.ms.z k).b=bin/\(s.ms.z k).o=good)->bj s bin good (k+1)=bj s bin good k)):=⟨λh=>C0 h.1 h.2,ym⟩;have q4:(0:Int)<=(k:Int):=by omega
 rw[W];obtain⟨W1,aa,E⟩:∃W1,wr.alloc (.cells #[.int .i64 (s.ms.z k).o,.int .i64 (s.ms.z k).l,.int .i64 (s.ms.z k).b,.int .i64 (s.ms.z k).n] 63)=W1/\Below d.heap.size d W1:=⟨_,rfl,T.alloc T.size _⟩;have HV:=hid aa;clear W Y aa c3 ak
 generalize bj s bin good k=U at *
 generalize (s.ms.z k).b=BB at *
 generalize (s.ms.z k).n=NN at *
 generalize (s.ms.z k).l=LL at *
 generalize (s.ms.z k).o=GD at *
 cases h1:(BB==(bin:Int))
 .have v:=y.out.2 (by simp at h1;omega);have B:=hid v;clear v y;go_wp2_with fail;rw[HV.out];go_roundw
  case rel=>exact⟨k+1,by omega,by go_num,by rw[B.out],E⟩
  case measure=>simp[intOf];omega
 cases h2:(GD==(good:Int))
 .have v:=y.out.2 (by simp at h2;omega);have B:=hid v;clear v y;go_wp2_with fail;rw[HV.out];go_roundw
  case rel=>exact⟨k+1,by omega,by go_num,by rw[B.out],E⟩
  case measure=>simp[intOf];omega
 have v:=y.out.1 ⟨by simpa using h1,by simpa using h2⟩;have B:=hid v;clear v y;go_wp2_with fail;rw[HV.out];go_roundw
 case rel=>exact⟨k+1,by omega,by go_num,by rw[B.out];congr 1;omega,E⟩
 case measure=>simp[intOf];omega
theorem ai.swap{A B:Nat}{w0 w:World}{o:St}{r:Sh}(h:ai A w0 o)(m:Below w0.heap.size w0 w)(d:Yh B w r)(t:w0.heap.size<=B)(q:A<=B):ai A w ⟨r,o.os,o.hs,o.ms,o.si,o.so,o.sf⟩:=by
 have k:=ai.below h m;obtain⟨x,a1,-,-,-,j⟩:=h.si;obtain⟨v,n,-,-,-,p⟩:=h.so;obtain⟨z,l,-,-,-,f⟩:=h.sf;have u:=j.lt;have s:=p.lt;have y:=f.lt;refine⟨?_,λi hi => ?_,d.rapart,k.os,k.hs,k.ms,k.msr,k.si,k.so,k.sf,k.aio,k.aif,k.aof,λi hi => ?_⟩
 .obtain⟨g,b,e,c⟩:=d.on;exact⟨g,b,by omega,c⟩
 .obtain⟨g,b,e,c⟩:=d.rows i hi;exact⟨g,b,by omega,c⟩
 obtain⟨g,b,e,c⟩:=d.rows i hi;show(r.r i).a≠o.si.a/\(r.r i).a≠o.so.a/\(r.r i).a≠o.sf.a;rw[b,a1,n,l];simp only[ne_eq,Qkx,Qkz,and_true];omega
theorem Na(p:Pl)(s:St)(bin good n:Int)(w:World)(hp:p.At w)(hs:s.At w):
  Calls prog 41 #[p.val,s.val,.int .i64 bin,.int .i64 good,.int .i64 n] w λe w'=>∃s':St,e = .returned (.tuple #[s'.val,.int .i64 (gt p s bin good n)])/\s'.At w'/\du (gt p s bin good n) (li s bin.toNat good.toNat n) s'/\(gt p s bin good n=0->ai w.heap.size w' s')/\Below w.heap.size w w':=by
 obtain⟨W0,hW,df,X0,Z0⟩:=Ab w p s;have HC:=yu hp hs df X0 Z0;have HW:=hid hW;have leb:=hp.leb;have aw:=hp.capb;have les:=hp.les;have au:=hp.caps;have capb:=aw;have caps:=au;have ef:=Z0.lt;unfold maxLen at capb caps;clear hW X0 Z0 hp hs;unfold Pl.val St.val;go_enter func41,ntmps41;go_wp2_with fail;rw[HW.out];obtain⟨X,l,d,m,q⟩:=HC.out W0 brf;refine(lm p s W0 l d).mono ?_;rintro e w1 ⟨rfl,G⟩;clear X l d m q HW;obtain⟨⟨⟨l1,d0,d1⟩,l2,F,c1,c2,c3,c4,c5,c6⟩,l,d,m,q⟩:=HC.out w1 G;have a0:p.nb<=maxLen:=Qzx leb aw;have av:p.ns<=maxLen:=Qzx les au;by_cases h0:ag p s=0;rotate_left
 .have A:Hid (gt p s bin good n=ag p s):=El h0;clear l d F c1 c2 c3 c4 c5 c6;obtain⟨zl,M,K,V,zc1,P,zc2,W,zc3,L,zc4,U,zc5,S,T⟩:=z7 q;go_wp2_with fail;exact gz results41 q m (by omega) A.out h0 rfl rfl rfl
 have H0:=hid h0;have x:Hid (cv p s):=(ed h0).fm;rw[h0];clear h0;cases k1:inB bin 0 ((p.nb:Int)-1)
 .have A:Hid (gt p s bin good n=3):=ux H0.out (by rw[k1];rfl);clear F c1 c2 c3 c4 c5 c6 l d;obtain⟨zl,M,K,V,zc1,P,zc2,W,zc3,L,zc4,U,zc5,S,T⟩:=z7 q;go_wp2_with(first|(go_at_call_of 71 (Value.int .i64 bin);refine ah (dk _ _ _ a0) ?_)|(go_at_call_of 71 (Value.int .i64 good);refine ah (dk _ _ _ av) ?_)|(go_at_call 63;refine ah (ch _ _ _ _) ?_));exact gz results41 q m (by omega) A.out (by decide) rfl rfl rfl
 cases k2:inB good 0 ((p.ns:Int)-1)
 .have A:Hid (gt p s bin good n=3):=ux H0.out (by rw[k1,k2];rfl);clear F c1 c2 c3 c4 c5 c6 l d;obtain⟨zl,M,K,V,zc1,P,zc2,W,zc3,L,zc4,U,zc5,S,T⟩:=z7 q;go_wp2_with(first|(go_at_call_of 71 (Value.int .i64 bin);refine ah (dk _ _ _ a0) ?_)|(go_at_call_of 71 (Value.int .i64 good);refine ah (dk _ _ _ av) ?_)|(go_at_call 63;refine ah (ch _ _ _ _) ?_));exact gz results41 q m (by omega) A.out (by decide) rfl rfl rfl
 cases k3:inB n 1 200
 .have A:Hid (gt p s bin good n=3):=ux H0.out (by rw[k1,k2,k3];rfl);clear F c1 c2 c3 c4 c5 c6 l d;obtain⟨zl,M,K,V,zc1,P,zc2,W,zc3,L,zc4,U,zc5,S,T⟩:=z7 q;go_wp2_with(first|(go_at_call_of 71 (Value.int .i64 bin);refine ah (dk _ _ _ a0) ?_)|(go_at_call_of 71 (Value.int .i64 good);refine ah (dk _ _ _ av) ?_)|(go_at_call 63;refine ah (ch _ _ _ _) ?_));exact gz results41 q m (by omega) A.out (by decide) rfl rfl rfl
 obtain⟨b,rfl⟩:=Qzz (aq k1).1;obtain⟨g,rfl⟩:=Qzz (aq k2).1;have hb:b<p.nb:=by have:=(aq k1).2;omega
 have E:g<p.ns:=by have:=(aq k2).2;omega
 have hn:=aq k3;have K3:=hid k3;have pz:=x.out.sh.pl.sizes g E;have fb:=Q3 x.out hb;have mb:=Da (a:=n) (b:=p.zs g) ⟨by omega,hn.2⟩ pz;have qb:(0:Int)<=(b:Int):=by omega
 have qg:(0:Int)<=(g:Int):=by omega
 have bk:=qa2 l d;clear l d;go_wp2_with(first|(go_at_call_of 71 (Value.int .i64 (b:Int));refine ah (dk _ _ _ a0) ?_)|(go_at_call_of 71 (Value.int .i64 (g:Int));refine ah (dk _ _ _ av) ?_)|(go_at_call 63;refine ah (ch _ _ _ _) ?_));refine(P4 p s b w1 bk.out.1 bk.out.2).mono ?_;rintro e w2 ⟨rfl,H⟩;have G:=G.trans (H.mono G.size);clear l1 d0 d1 l2 F c1 c2 c3 c4 c5 c6 m q H bk;obtain⟨⟨⟨l1,d0,d1⟩,l2,F,c1,c2,c3,c4,c5,c6⟩,l,d,m,q⟩:=HC.out w2 G;obtain⟨bz,oz,bl,az,y0⟩:=l.sizes g E;have aa:=qa3 bl l d;rw[bl] at d1;have bb:Hid (z5 p s b=fw p s b/\sp p s b=0):=by
  have hu:ui p s.on b=0:=by unfold ui;rw[x.out.sh0];simp only[beq_self_eq_true,if_true];rw[bq (by have:=x.out.sh.n;omega)];rfl
  have e:sp p s b=0:=by unfold sp;rw[if_pos H0.out,hu]
  exact⟨by unfold z5;rw[e,if_pos rfl];rfl,e⟩
 rw[bb.out.1,bb.out.2];have cy:Hid (fw p s b<n*p.zs g->gt p s b g n=5):=λh=>Mn H0.out hb E K3.out h;have b0:Hid (¬fw p s b<n*p.zs g->(200<dw s b g+n\/1048576<s.si.z g+n)->gt p s b g n=2):=λh h2=>Mo H0.out hb E K3.out h h2;have b1:Hid (¬fw p s b<n*p.zs g->¬(200<dw s b g+n\/1048576<s.si.z g+n)->gt p s b g n=0):=λh h2=>Ri H0.out hb E K3.out h h2;clear bb k1 k2 bl l d
 generalize fw p s b=FR at *
 generalize p.zs g=PZ at *
 by_cases h5:FR<n*PZ
 .have A:Hid (gt p s b g n=5):=cy.out h5;clear F c1 c2 c3 c4 c5 c6;obtain⟨zl,M,K,V,zc1,P,zc2,W,zc3,L,zc4,U,zc5,S,T⟩:=z7 q;go_wp2_with fail;exact gz results41 q m (by omega) A.out (by decide) rfl rfl rfl
 have d5:decide (FR<n*PZ)=false:=by simp;omega
 have a9:=q.lt;clear q;go_wp2_with fail;refine(Ha p s b g w2 aa.out.2.2 x.out hb E).mono ?_;rintro e w3 ⟨rfl,H⟩;have G:=G.trans (H.mono G.size);clear l1 d0 d1 l2 F c1 c2 c3 c4 c5 c6 m H aa y0 a9 az d5;obtain⟨⟨⟨l1,d0,d1⟩,l2,F,c1,c2,c3,c4,c5,c6⟩,l,d,m,q⟩:=HC.out w3 G;obtain⟨bi,oi,B,dt,y2⟩:=d.si.ints g (by rw[x.out.sin];exact E);have v5:=d.si.le;have v6:=d.si.cap;unfold maxLen at v6;have u3:=x.out.sib g E;have en:g<s.si.n:=by rw[x.out.sin];exact E
 have ly:0<=dw s b g/\dw s b g<=1800:=by
  have ba:b<s.on.n:=by rw[x.out.sh.n];exact hb
  have u1:=x.out.sh.num b ba g E;have u2:=lj (s:=s) (b:=b) (g:=g) x.out.moveN;have ms8:=x.out.ms8;unfold dw;omega
 have aa:=qa3 l d B;have Q:=b0.out h5;have af:=b1.out h5;have de:Hid (li s b g n=setIn (setOn s b g ((s.on.r b).z g+n)) g (s.si.z g+n)):=rfl;clear b0 b1;have db:Hid (dw s b g=(s.on.r b).z g+bj s b g s.ms.n):=rfl;clear l d
 generalize dw s b g=LY at *
 generalize hSI:s.si.z g=D at *
 have dd:=hid hSI;clear hSI;rw[B] at c4;clear B;cases d6:decide (200-LY<n);rotate_left
 .have A:Hid (gt p s b g n=2):=Q (Or.inl (by simp at d6;omega));clear Q af;obtain⟨zl,M,K,V,zc1,P,zc2,W,zc3,L,zc4,U,zc5,S,T⟩:=z7 q;go_wp2_with fail;exact gz results41 q m (by omega) A.out (by decide) rfl rfl rfl
 cases d7:decide (1048576-D<n);rotate_left
 .have A:Hid (gt p s b g n=2):=Q (Or.inr (by simp at d7;omega));clear Q af;obtain⟨zl,M,K,V,zc1,P,zc2,W,zc3,L,zc4,U,zc5,S,T⟩:=z7 q;go_wp2_with fail;exact gz results41 q m (by omega) A.out (by decide) rfl rfl rfl
 have A:Hid (gt p s b g n=0):=af (by simp at d6 d7;omega);have bo:Ej p s.on b g n=0:=by
  have ba:b<s.on.n:=by rw[x.out.sh.n];exact hb
  have hu:ue p s.on b g=0:=by rw[En x.out.sh0,bq (by omega),bq (by omega)];rfl
  have u1:=x.out.sh.num b ba g E;have u2:=(lj (s:=s) (b:=b) (g:=g) x.out.moveN).1;have ee:=db.out;have hi:inB n (-((s.on.r b).z g)) (200-(s.on.r b).z g)=true:=bq (by simp at d6;omega);simp[Ej,hu,hi]
 have cq:=hid bo;have a9:=q.lt;have bd:=nd p s w3 aa.out.2.1 x.out;rw[St.val,aa.out.2.2] at bd;have cc:Hid _:=bd;clear Q af bo bd q;go_wp2_with fail;refine Calls.mono cc.out ?_;rintro e u ⟨o,rfl,f,a7,H⟩;clear cc;have b7:=G.trans (H.mono G.size);have q3:=G.size;have cf:Hid (w.heap.size<=w3.heap.size):=Qzx (HC.out _ brf).2.2.2.1.size G.size;have q4:=H.size;have ax:Hid (o.si.n=p.ns):=f.si.1.trans x.out.sin;have dv:Hid (o.si.z g=D):=(f.si.2 g (by rw[ax.out];exact E)).trans dd.out;obtain⟨W5,b6,ab,K5⟩:=ab7 u o;have bg:=hid b6;have a1:=b7.trans (ab.mono b7.size);have ay:=ai.below a7 ab;clear l1 d0 d1 l2 F c1 c2 c3 c4 c5 c6 m aa a9 dt y2;obtain⟨⟨⟨l1,d0,d1⟩,l2,F,-⟩,l,d,m,-⟩:=HC.out W5 a1;have b5:=qa2 l d;have dz:=qa3 ay K5 f;have b9:=l1;have bv:=l2;have b2:=d0;have b8:=d1;have cb:=F;rw[<-bg.out] at b9 bv b2 b8 cb;clear a7 ay K5 f l d m l1 l2 d0 d1 F b6;simp only[St.val];go_wp2_with fail;rw[bg.out];clear b9 bv b2 b8 cb bg;refine(Lh p s.on b g n W5 b5.out.1 b5.out.2.on cq.out).mono ?_;rintro e w6 ⟨r,rfl,hR,bs,cd,al⟩;obtain⟨b3,K5,f⟩:=dz.out;have q5:=ab.size;have q6:=al.size;have a8:=a1.trans (al.mono a1.size);have bc:=ai.swap b3 al hR nlr (by omega);have K6:=K5.below al;obtain⟨J,B,iA,i1,i2,ik⟩:=bc.si;have bf:=bc.box K6 0 (.slice r.a r.n r.c);have K7:=K6.set 0 (.slice r.a r.n r.c);have ca:=a8.setCell (p:=⟨u.heap.size,0,none⟩) (by show W0.heap.size<=u.heap.size;omega) (.slice r.a r.n r.c);obtain⟨ep,aj,-,-,-,jk⟩:=bf.si;rw[show(⟨r,o.os,o.hs,o.ms,o.si,o.so,o.sf⟩:St).si=o.si from rfl] at B aj jk i1 i2;rw[B] at aj;simp only[Qkx,Qkz,and_true] at aj;subst aj;have b4:=bf.setIn (show(⟨r,o.os,o.hs,o.ms,o.si,o.so,o.sf⟩:St).si.a=some ⟨J,0,none⟩ from B) g (D+n);have Y:=K7.other (a:=⟨J,g,none⟩) (Blk.ne2 K7 jk (by decide)) (.int .i64 (D+n));have bn:=ca.setCell (p:=⟨J,g,none⟩) (by show W0.heap.size<=J;omega) (.int .i64 (D+n));have cm:=qa3 bn b4 Y;have dp:Hid (ae (setIn ⟨r,o.os,o.hs,o.ms,o.si,o.so,o.sf⟩ g (D+n)) (li s b g n)):=by
  show ae _ (li s b g n);rw[de.out];refine Gp (s:=⟨r,o.os,o.hs,o.ms,o.si,o.so,o.sf⟩) (t:=setOn s b g ((s.on.r b).z g+n)) ⟨⟨bs,λi hi => ?_⟩,f.os,f.hs,f.ms,f.si,f.so,f.sf⟩ _ _;have dq:i<s.on.n:=by rw[<-bs];exact hi
  have y:=cd i dq;show(r.r i).n=(if i=b then ku (s.on.r i) g ((s.on.r b).z g+n) else s.on.r i).n/\∀j,j<(r.r i).n->(r.r i).z j=(if i=b then ku (s.on.r i) g ((s.on.r b).z g+n) else s.on.r i).z j;by_cases bm:i=b
  .subst bm;rw[if_pos rfl];refine⟨y.1,λj hj => ?_⟩;rw[y.2 j (by rw[<-y.1];exact hj)];show Ek s.on i g n i j=if j=g then(s.on.r i).z g+n else(s.on.r i).z j;unfold Ek;by_cases bx:j=g
   .subst bx;simp
   simp[bx]
  rw[if_neg bm];refine⟨y.1,λj hj => ?_⟩;rw[y.2 j (by rw[<-y.1];exact hj)];unfold Ek;simp[bm]
 have z1:=K6.lt;have z2:=K6.frozen 0;have z3:=K6.k 0;have y4:(w6.setCell ⟨u.heap.size,0,none⟩ (.slice r.a r.n r.c)).cell? ⟨u.heap.size,4,none⟩=some (.slice o.si.a o.si.n o.si.c):=K7.k 4;rw[B,ax.out] at y4;have y5:(w6.setCell ⟨u.heap.size,0,none⟩ (.slice r.a r.n r.c)).cell? ⟨J,g,none⟩=some (.int .i64 (o.si.z g)):=jk.cell (j:=g) (by rw[ax.out];exact E);rw[dv.out] at y5;have y6:=jk.lt;have y7:=jk.frozen g;have y8:=K7.lt;have eo:=hid B;rw[ax.out] at i1;unfold maxLen at i2;obtain⟨-,-,-,co,bw⟩:=HC.out _ bn;have m8:=Y.lt;have e0:((w6.setCell ⟨u.heap.size,0,none⟩ (.slice r.a r.n r.c)).setCell ⟨J,g,none⟩ (.int .i64 (D+n))).cell? ⟨u.heap.size,0,none⟩=some (.slice r.a r.n r.c):=Y.k 0;have e1:((w6.setCell ⟨u.heap.size,0,none⟩ (.slice r.a r.n r.c)).setCell ⟨J,g,none⟩ (.int .i64 (D+n))).cell? ⟨u.heap.size,1,none⟩=some (.slice o.os.a o.os.n o.os.c):=Y.k 1;have e2:((w6.setCell ⟨u.heap.size,0,none⟩ (.slice r.a r.n r.c)).setCell ⟨J,g,none⟩ (.int .i64 (D+n))).cell? ⟨u.heap.size,2,none⟩=some (.slice o.hs.a o.hs.n o.hs.c):=Y.k 2;have e3:((w6.setCell ⟨u.heap.size,0,none⟩ (.slice r.a r.n r.c)).setCell ⟨J,g,none⟩ (.int .i64 (D+n))).cell? ⟨u.heap.size,3,none⟩=some (.slice o.ms.a o.ms.n o.ms.c):=Y.k 3;have e4:((w6.setCell ⟨u.heap.size,0,none⟩ (.slice r.a r.n r.c)).setCell ⟨J,g,none⟩ (.int .i64 (D+n))).cell? ⟨u.heap.size,4,none⟩=some (.slice o.si.a o.si.n o.si.c):=Y.k 4;have e5:((w6.setCell ⟨u.heap.size,0,none⟩ (.slice r.a r.n r.c)).setCell ⟨J,g,none⟩ (.int .i64 (D+n))).cell? ⟨u.heap.size,5,none⟩=some (.slice o.so.a o.so.n o.so.c):=Y.k 5;have e6:((w6.setCell ⟨u.heap.size,0,none⟩ (.slice r.a r.n r.c)).setCell ⟨J,g,none⟩ (.int .i64 (D+n))).cell? ⟨u.heap.size,6,none⟩=some (.slice o.sf.a o.sf.n o.sf.c):=Y.k 6;obtain⟨zl,M,K,V,zc1,P,zc2,W,zc3,L,zc4,U,zc5,S,T⟩:=z7 bw;clear hR bs cd b3 K5 K6 K7 Y bc bf b4 ca bn al a8 ik jk f B a1 ab co bw;simp only[Sh.val];go_wp2_with fail;obtain⟨dr,dn,em⟩:=cm.out;obtain⟨_,_,_,m,q⟩:=HC.out _ dr;have KZ:=rq q (.slice r.a r.n r.c) (.slice o.os.a o.os.n o.os.c) (.slice o.hs.a o.hs.n o.hs.c) (.slice o.ms.a o.ms.n o.ms.c) (.slice o.si.a o.si.n o.si.c) (.slice o.so.a o.so.n o.so.c) (.slice o.sf.a o.sf.n o.sf.c);have az:=nf (b:=w.heap.size+2) m (by omega) (.slice r.a r.n r.c) (.slice o.os.a o.os.n o.os.c) (.slice o.hs.a o.hs.n o.hs.c) (.slice o.ms.a o.ms.n o.ms.c) (.slice o.si.a o.si.n o.si.c) (.slice o.so.a o.so.n o.so.c) (.slice o.sf.a o.sf.n o.sf.c);have be:=ai.set7 dn q (.slice r.a r.n r.c) (.slice o.os.a o.os.n o.os.c) (.slice o.hs.a o.hs.n o.hs.c) (.slice o.ms.a o.ms.n o.ms.c) (.slice o.si.a o.si.n o.si.c) (.slice o.so.a o.so.n o.so.c) (.slice o.sf.a o.sf.n o.sf.c);unfold set7 at KZ az be;obtain⟨cz,dl,dg,ds,cu,d2,dj⟩:=cn KZ;refine Xzq (v := .tuple #[(setIn ⟨r,o.os,o.hs,o.ms,o.si,o.so,o.sf⟩ g (D+n)).val,.int .i64 0]) (by simp[results,results41,go_sem,setIn,ku,St.val,cz,dl,dg,ds,cu,d2,dj]) rfl ?_;exact⟨setIn ⟨r,o.os,o.hs,o.ms,o.si,o.so,o.sf⟩ g (D+n),by rw[A.out];rfl,be.at,⟨λ_=>dp.out,λh=>absurd A.out h⟩,λ_=>be.mono cf.out,az⟩
def tj(p:Pl)(x:Hd):Bool := !(inB x.o 0 ((p.ns:Int)-1)) || !(inB x.l 1 200)
def o6(x:Hd):Bool:=x.b !=0||x.n !=0
def gp(p:Pl)(s:St)(l:Hs):Int :=
 if ag p s=0 then(if s.os.n=4\/¬(1<=l.n/\l.n<=3) then 2 else if aw l.n (λj=>tj p (l.z j)) then 3 else if aw l.n (λj=>o6 (l.z j)) then 1 else 0) else ag p s
def kj(s:St)(l:Hs):St:=⟨s.on,⟨s.os.a,s.os.n+1,s.os.c,λi=>if i=s.os.n then ⟨0,l⟩ else s.os.z i⟩,s.hs,s.ms,s.si,s.so,s.sf⟩
theorem C2{p:Pl}{s:St}{l:Hs}(h:¬ag p s=0):gp p s l=ag p s:=by unfold gp;rw[if_neg h]
theorem yd{p:Pl}{s:St}{l:Hs}(h:ag p s=0)(a:s.os.n=4\/¬(1<=l.n/\l.n<=3)):gp p s l=2:=by unfold gp;rw[if_pos h,if_pos a]
theorem C1{p:Pl}{s:St}{l:Hs}(h:ag p s=0)(b:¬(s.os.n=4\/¬(1<=l.n/\l.n<=3)))(a:aw l.n (λj=>tj p (l.z j))=true):gp p s l=3:=by unfold gp;rw[if_pos h,if_neg b,if_pos a]
theorem Ee{p:Pl}{s:St}{l:Hs}(h:ag p s=0)(b:¬(s.os.n=4\/¬(1<=l.n/\l.n<=3)))(c:¬aw l.n (λj=>tj p (l.z j))=true)(a:aw l.n (λj=>o6 (l.z j))=true):gp p s l=1:=by unfold gp;rw[if_pos h,if_neg b,if_neg c,if_pos a]
theorem Oi{p:Pl}{s:St}{l:Hs}(h:ag p s=0)(b:¬(s.os.n=4\/¬(1<=l.n/\l.n<=3)))(c:¬aw l.n (λj=>tj p (l.z j))=true)(a:¬aw l.n (λj=>o6 (l.z j))=true):gp p s l=0:=by unfold gp;rw[if_pos h,if_neg b,if_neg c,if_neg a]
theorem Tp(B:Nat)(p:Pl)(x:Hd)(w:World)(les:p.ns<=p.cs)(caps:p.cs<=maxLen)(d:B<w.heap.size)(c1:w.cell? ⟨B,1,none⟩=some (.slice p.sa p.ns p.cs)):
  Calls prog 92 #[x.val,.pointer (some ⟨B,0,none⟩)] w λe f=>e = .returned (.bool (tj p x))/\Below w.heap.size w f:=by
 have c:p.ns<=maxLen:=Qzx les caps;have a:Below w.heap.size w (w.alloc (.cells #[.int .i64 x.o,.int .i64 x.l,.int .i64 x.b,.int .i64 x.n] 59)):=(Below.refl w.heap.size w).alloc nlr _;have h:=(a.cell (p:=⟨B,1,none⟩) d).trans c1;have g:B<(w.alloc (.cells #[.int .i64 x.o,.int .i64 x.l,.int .i64 x.b,.int .i64 x.n] 59)).heap.size:=by have:=a.size;omega
 unfold tj Hd.val;clear c1;unfold maxLen at caps;cases i:inB x.o 0 ((p.ns:Int)-1)
 all_goals
  go_enter func92,ntmps92;go_wp2_with(first|(go_at_call 71;refine ah (dk _ _ _ c) ?_)|(go_at_call 63;refine ah (ch _ _ _ _) ?_));go_ret;exact⟨by simp,a⟩
theorem Tq(x:Hd)(w:World):
  Calls prog 93 #[x.val] w λe c=>e = .returned (.bool (o6 x))/\Below w.heap.size w c:=by
 have a:Below w.heap.size w (w.alloc (.cells #[.int .i64 x.o,.int .i64 x.l,.int .i64 x.b,.int .i64 x.n] 59)):=(Below.refl w.heap.size w).alloc nlr _;unfold o6 Hd.val;cases d:(x.b !=0)
 all_goals
  go_enter func93,ntmps93;go_wp2_with fail;go_ret;exact⟨by simp,a⟩
theorem ai.orders{A B:Nat}{w j:World}{s:St}{os:Os}(h:ai A w s)(f:pk B 57 w j)(k:j7 A j os):ai A j ⟨s.on,os,s.hs,s.ms,s.si,s.so,s.sf⟩:=by
 refine⟨?_,λi hi=>(h.rows i hi).grew f (by decide),h.rapart,k,h.hs.grew f (by decide),h.ms.grew f (by decide),h.msr.grew f (by decide),h.si.grew f (by decide),h.so.grew f (by decide),h.sf.grew f (by decide),h.aio,h.aif,h.aof,h.ari⟩;obtain⟨g,a,b,c,d,e⟩:=h.on;exact⟨g,a,b,c,d,f.blk e (by decide)⟩
theorem L3{o s:St}{l b:Hs}{a:Option Addr}{c:Nat}(h:ae o s)(e:b.n=l.n)(f:∀j,j<l.n->b.z j=l.z j):ae ⟨o.on,⟨a,o.os.n+1,c,l7 o.os ⟨0,b⟩⟩,o.hs,o.ms,o.si,o.so,o.sf⟩ (kj s l):=by
 have m:o.os.n=s.os.n:=h.os.1;refine⟨h.on,⟨by show o.os.n+1=s.os.n+1;omega,λi hi => ?_⟩,h.hs,h.ms,h.si,h.so,h.sf⟩;have p:i<o.os.n+1:=hi;show(l7 o.os ⟨0,b⟩ i).k=(if i=s.os.n then(⟨0,l⟩:Od) else s.os.z i).k/\(l7 o.os ⟨0,b⟩ i).ls.n=(if i=s.os.n then(⟨0,l⟩:Od) else s.os.z i).ls.n/\∀j,j<(l7 o.os ⟨0,b⟩ i).ls.n->(l7 o.os ⟨0,b⟩ i).ls.z j=(if i=s.os.n then(⟨0,l⟩:Od) else s.os.z i).ls.z j;unfold l7;by_cases d:i=s.os.n
 .rw[if_pos (by omega),if_pos d];exact⟨rfl,e,λj g=>f j (by rw[<-e];exact g)⟩
 rw[if_neg (by omega),if_neg d];exact h.os.2 i (by omega)
theorem P3(p:Pl)(s:St)(l:Hs)(w:World)(hp:p.At w)(hs:s.At w)(hl:l.At w):
  Calls prog 42 #[p.val,s.val,l.val] w λe w'=>∃m:St,e = .returned (.tuple #[m.val,.int .i64 (gp p s l)])/\m.At w'/\du (gp p s l) (kj s l) m/\(gp p s l=0->ai w.heap.size w' m)/\Below w.heap.size w w':=by
 obtain⟨W0,hW,au,X0,Z0⟩:=Ab w p s;have HC:Hid (∀f,Below W0.heap.size W0 f->lq f w.heap.size (w.heap.size+1) p s/\p.At f/\s.At f/\Below w.heap.size w f/\Blk f (w.heap.size+2) 31 7 (λ_ => .slice .none 0 0)/\l.At f):=λf h=>⟨X0.below h,(hp.below au).below h,(hs.below au).below h,au.trans (h.mono au.size),Z0.below h,(hl.below au).below h⟩;have HW:=hid hW;have leb:=hp.leb;have b4:=hp.capb;have les:=hp.les;have a5:=hp.caps;have capb:=b4;have caps:=a5;have ec:=Z0.lt;unfold maxLen at capb caps;have cb:=hl.le;have ad:=hl.cap;have ct:=ad;unfold maxLen at ct;clear hW X0 Z0 hp hs hl;unfold Pl.val St.val Hs.val;go_enter func42,ntmps42;go_wp2_with fail;rw[HW.out];obtain⟨X,F,y,A,D,t⟩:=HC.out W0 brf;refine(lm p s W0 F y).mono ?_;rintro e w1 ⟨rfl,H⟩;clear X F y A D t HW;obtain⟨⟨⟨l1,d0,d1⟩,l2,c0,c1,c2,c3,c4,c5,c6⟩,F,y,A,D,t⟩:=HC.out w1 H;by_cases h0:ag p s=0;rotate_left
 .have W:Hid (gp p s l=ag p s):=C2 h0;clear F y t c0 c1 c2 c3 c4 c5 c6;obtain⟨zl,al,aj,az,zc1,an,zc2,a1,zc3,ak,zc4,ax,zc5,ar,av⟩:=z7 D;go_wp2_with fail;exact gz results42 D A (by omega) W.out h0 rfl rfl rfl
 have H0:=hid h0;have HF:Hid (cv p s):=(ed h0).fm;rw[h0];clear h0;by_cases k1:s.os.n=4
 .have W:Hid (gp p s l=2):=yd H0.out (Or.inl k1);have q1:((s.os.n:Int)==4)=true:=by rw[k1];rfl
  clear k1;clear F y t;obtain⟨zl,al,aj,az,zc1,an,zc2,a1,zc3,ak,zc4,ax,zc5,ar,av⟩:=z7 D;go_wp2_with(go_at_call 63;refine ah (ch _ _ _ _) ?_);exact gz results42 D A (by omega) W.out (by decide) rfl rfl rfl
 have q1:((s.os.n:Int)==4)=false:=by simp;omega
 cases k2:inB l.n 1 3
 .have W:Hid (gp p s l=2):=yd H0.out (Or.inr (by have:=Ow k2;omega));clear k1;clear F y t;obtain⟨zl,al,aj,az,zc1,an,zc2,a1,zc3,ak,zc4,ax,zc5,ar,av⟩:=z7 D;go_wp2_with(go_at_call 63;refine ah (ch _ _ _ _) ?_);exact gz results42 D A (by omega) W.out (by decide) rfl rfl rfl
 have em:=aq k2;have HM:Hid (¬(s.os.n=4\/¬(1<=l.n/\l.n<=3))):=by show ¬_;omega
 clear k1;have T:=hid t;clear D F y t;go_wp2_with(go_at_call 63;refine ah (ch _ _ _ _) ?_);refine(Lo 92 #[.pointer (some ⟨w.heap.size,0,none⟩)] (λj=>tj p (l.z j)) _ _ _ _ cb ad l.z T.out.hds (enters_of func92 (by kernel_rfl) rfl) (λi Q _ h=>Tp w.heap.size p _ Q les a5 (Xzx l1 h.size) ((h.cell (p:=⟨w.heap.size,1,none⟩) l1).trans d1))).mono ?_;rintro e Q ⟨rfl,E⟩;have H:=H.trans (E.mono H.size);clear l1 d0 d1 l2 c0 c1 c2 c3 c4 c5 c6 A E T q1 k2;obtain⟨⟨⟨l1,d0,d1⟩,l2,c0,c1,c2,c3,c4,c5,c6⟩,F,y,A,D,t⟩:=HC.out Q H;cases k3:aw l.n (λj=>tj p (l.z j));rotate_left
 .have W:Hid (gp p s l=3):=C1 H0.out HM.out k3;clear k3;clear F y t;obtain⟨zl,al,aj,az,zc1,an,zc2,a1,zc3,ak,zc4,ax,zc5,ar,av⟩:=z7 D;go_wp2_with fail;exact gz results42 D A (by omega) W.out (by decide) rfl rfl rfl
 have K3:Hid (¬aw l.n (λj=>tj p (l.z j))=true):=by show ¬_;rw[k3];decide
 clear k3;have T:=hid t;clear D F y t;go_wp2_with fail;refine(Lo 93 #[] (λj=>o6 (l.z j)) _ _ _ _ cb ad l.z T.out.hds (enters_of func93 (by kernel_rfl) rfl) (λi Q _ h=>by rw[Array.append_empty];exact Tq _ _)).mono ?_;rintro e w3 ⟨rfl,E⟩;have H:=H.trans (E.mono H.size);clear l1 d0 d1 l2 c0 c1 c2 c3 c4 c5 c6 A E T;obtain⟨⟨⟨l1,d0,d1⟩,l2,c0,c1,c2,c3,c4,c5,c6⟩,F,y,A,D,t⟩:=HC.out w3 H;cases k4:aw l.n (λj=>o6 (l.z j));rotate_left
 .have W:Hid (gp p s l=1):=Ee H0.out HM.out K3.out k4;clear k4;clear F y t;obtain⟨zl,al,aj,az,zc1,an,zc2,a1,zc3,ak,zc4,ax,zc5,ar,av⟩:=z7 D;go_wp2_with fail;exact gz results42 D A (by omega) W.out (by decide) rfl rfl rfl
 have W:Hid (gp p s l=0):=Oi H0.out HM.out K3.out (by rw[k4];decide);clear k4 K3 HM;have dd:=D.lt;have cd:=nd p s w3 y HF.out;have cr:Hid _:=cd;have T:=hid t;clear cd D t F y;go_wp2_with fail;refine Calls.mono cr.out ?_;rintro e J ⟨o,rfl,r,bj,E⟩;clear cr;have cl:=H.trans (E.mono H.size);have q3:=H.size;have cs:Hid (w.heap.size<=w3.heap.size):=Qzx (HC.out _ brf).2.2.2.1.size H.size;have q4:=E.size;obtain⟨W5,ci,Y,a6⟩:=ab7 J o;have cg:=hid ci;have b1:=cl.trans (Y.mono cl.size);have a8:=ai.below bj Y;have bt:=(T.out.below E).below Y;have q5:=Y.size;have er:o.os.n<=4:=by have:=HF.out.os4;have:o.os.n=s.os.n:=r.os.1;omega
 clear l1 d0 d1 l2 c0 c1 c2 c3 c4 c5 c6 A dd ci;simp only[St.val];go_wp2_with fail;rw[cg.out];have d3:=qa3 a8 a6 r;have d4:=hid bt;have r0:=Qqq (a6.k 1);have eq:J.heap.size<W5.heap.size:=a6.lt;clear bj a8 a6 r bt T cg Y E;obtain⟨iO,hO,di,c8,dg⟩:=info_parts Cg;refine tc (λw'=>∃p:Regrown,w'=grow (redrawn W5 p.d) p.os) [0,1,2] [3,4,5] [(true,6),(true,7),(true,8)] (Qqx (brf.drew)) ?_;simp only[dv,Qyq,Xqq,Qyx,Qyz,Xqz,Xqx]
 repeat(go_big_quiet_step(fail))
 refine Qqz ?_;clear r0;refine⟨λj v g f=>match j with|3=>DHs W5.heap.size 59 l v g f|4=>D16 W5.heap.size ⟨0,l⟩ v g f|5=>D17 W5.heap.size ⟨0,l⟩ v g f|_=>True,
  Qjx ⟨λv g w w' H h=>DHs.below h H,Qjx ⟨λv g w w' H h=>D16.below h H,Qjx ⟨λv g w w' H h=>D17.below h H,Qjq _⟩⟩⟩,
  Qjx ⟨λv g w h=>by obtain⟨_,h1,_⟩:=h;rw[h1];intro x hx;simp at hx,Qjx ⟨λv g w h=>by obtain⟨_,h1,_⟩:=h;rw[h1];intro x hx;simp at hx,Qjx ⟨λv g w h=>by obtain⟨_,_,h1,_⟩:=h;rw[h1];intro x hx;simp at hx,Qjq _⟩⟩⟩,
  Qjx ⟨?zt3,Qjx ⟨?zt4,Qjx ⟨?zt5,Qjq _⟩⟩⟩,?ztdone⟩
 case zt3 =>
  intro V G f K hS hd hA hK;have S:=af hS;have q:=S.size;refine ay 3 rfl ?_;simp only[am,bu,Qvz,Qwq,Qvx,Act.put,Qvq,Qwx,Qwz] at hK ⊢;go_wp2_with fail;refine(Gx l f (d4.out.below S) (by omega)).mono ?_;rintro e Q ⟨m,rfl,hc,E⟩;have HR:Hid (pj W5.heap.size 59 l Q m):=⟨hc.1,hc.2.1,hc.2.2.1.mono (by omega),hc.2.2.2.mono (by omega)⟩;clear hc;simp only[Hs.val];go_wp2_with fail;exact hK _ [] _ (Qqx (S.trans (E.mono S.size))) E (λx hx=>by simp at hx) ⟨m,rfl,rfl,HR.out⟩
 case zt4 =>
  intro V G f K hS hd hA hK;obtain⟨m,-,dt,hc⟩:DHs W5.heap.size 59 l (V 3) (G 3) f:=hd 3 (Qjz (by kernel_rfl)) (by simp);have ab:Hid (pj W5.heap.size 59 l f m):=hc;clear hc;refine ay 4 rfl ?_;simp only[am,bu,Qvz,Qwq,Qvx,Act.put,Qvq,Qwx,Qwz,dt] at hK ⊢;go_wp2_with fail;exact hK _ [] _ hS brf (λx hx=>by simp at hx) ⟨m,rfl,rfl,ab.out⟩
 case zt5 =>
  intro V G f K hS hd hA hK;have S:=af hS;obtain⟨m,-,de,hc⟩:D16 W5.heap.size ⟨0,l⟩ (V 4) (G 4) f:=hd 4 (Qjz (by kernel_rfl)) (by simp);have ab:Hid (pj W5.heap.size 59 l f m):=hc;clear hc;refine ay 5 rfl ?_;simp only[am,bu,Qvz,Qwq,Qvx,Act.put,Qvq,Qwx,Qwz,de] at hK ⊢;go_wp2_with fail;have cf:=(Below.refl f.heap.size f).alloc nlr (.cells #[.int .i64 0,.slice m.a m.n m.c] 57);exact hK _ [] _ (Qqx (S.alloc S.size _)) (brf.alloc nlr _) (λx hx=>by simp at hx) ⟨f.heap.size,m,rfl,rfl,S.size,Blk.mk' rfl rfl,ab.out.1,ab.out.2.1,ab.out.2.2.1.below cf,ab.out.2.2.2.below cf⟩
 case ztdone =>
  intro V G' f hS hD hA;obtain⟨BO,m,-,dz,ek,ck,e1,e2,⟨o1,o2,o3,o4⟩,-⟩:D17 W5.heap.size ⟨0,l⟩ (V 5) (G' 5) f:=hD 5 (by simp);have S:=af hS;have q1:=S.size;obtain⟨gB,ea,bk,kB⟩:=o4 (by rw[e1];show 0<l.n;omega);obtain⟨bp,K5,r⟩:=d3.out;have cm:=ai.below bp S;have K6:=K5.below S;have ca:=b1.trans (S.mono b1.size);have HE:=qa8 e1 e2 ea o1 o2 kB r bk;have U:=qa2 cm bp;have cc:=hid K6;have bh:=hid ca;have a4:=hid ck;clear hS hD hA e1 e2 ea o1 o2 o3 o4 kB bp K5 r cm K6 ca ck b1;simp only[am,bu,Qvz,Qwq,Qvx,Act.put,Qvq,Qwx,Qwz,dz];refine dj 6 rfl ?_;go_wp2_with(at_builtin;refine ta f rfl (.tmp 45) (.tmp 49) 27 rfl w3.heap.size 57 iO (.agg #[.int .i64 0,.slice none 0 0]) 2 32 underlying27 hO di c8 dg rfl (by decide) o.os.a o.os.n o.os.c (jh o.os.n o.os.z) rfl U.out.1.os.room U.out.1.os.le U.out.1.os.cap (sl _ _) U.out.1.os.list ⟨BO,0,none⟩ 1 1 [.int .i64 0,.slice m.a m.n m.c] rfl rfl ?zc1 ?zc2 (by decide) ?zc3 ?zc4 ?zc5 ?_)
  case zc1 =>
   intro j u hj
   match j,hj with
   | 0,hj=>simp at hj;subst hj;exact a4.out.k 0
   | 1,hj=>simp at hj;subst hj;exact a4.out.k 1
  case zc2=>first|(intro u hu;simp at hu;rcases hu with rfl|rfl<;>rfl)|exact⟨rfl,rfl⟩
  case zc3=>unfold maxLen;omega
  case zc4=>omega
  case zc5=>omega
  intro v2 Q a7 L;obtain⟨e1,e2,ea,o1,o2,kB,r,bk⟩:=HE.out;obtain⟨M,P,rfl,co⟩:=j7.more (x:=⟨0,m⟩) U.out.1.os a7 L ea (by omega) o1 o2 kB (λi hi e=>by
   obtain⟨B,x1,x2,x3,x4,x5⟩:=U.out.2.os.lines i hi;rw[x1] at e;have e':=e.trans ea;simp only[Qkx,Qkz,and_true] at e';have:=x5.lt;omega)
  have b2:=U.out.1.orders L co;have cq:=L.below bh.out (by omega) (by have:=bh.out.size;omega);have K7:=L.blk cc.out (by decide);have xl:=K7.lt;have eu:=K7.frozen 1;have et:=K7.k 1;have K8:=K7.set 1 (.slice M (o.os.n+1) P);have ce:=b2.box K7 1 (.slice M (o.os.n+1) P);have cp:=cq.setCell (p:=⟨J.heap.size,1,none⟩) (by show W0.heap.size<=J.heap.size;omega) (.slice M (o.os.n+1) P);have dw:Hid (ae ⟨o.on,⟨M,o.os.n+1,P,l7 o.os ⟨0,m⟩⟩,o.hs,o.ms,o.si,o.so,o.sf⟩ (kj s l)):=L3 r e1 e2;obtain⟨-,-,-,bv,bi,-⟩:=HC.out _ cp;have cu:=qa3 ce bv bi;have m8:=K8.lt;have el:(Q.setCell ⟨J.heap.size,1,none⟩ (.slice M (o.os.n+1) P)).cell? ⟨J.heap.size,0,none⟩=some (.slice o.on.a o.on.n o.on.c):=K8.k 0;have eo:(Q.setCell ⟨J.heap.size,1,none⟩ (.slice M (o.os.n+1) P)).cell? ⟨J.heap.size,1,none⟩=some (.slice M (o.os.n+1) P):=K8.k 1;have es:(Q.setCell ⟨J.heap.size,1,none⟩ (.slice M (o.os.n+1) P)).cell? ⟨J.heap.size,2,none⟩=some (.slice o.hs.a o.hs.n o.hs.c):=K8.k 2;have en:(Q.setCell ⟨J.heap.size,1,none⟩ (.slice M (o.os.n+1) P)).cell? ⟨J.heap.size,3,none⟩=some (.slice o.ms.a o.ms.n o.ms.c):=K8.k 3;have ep:(Q.setCell ⟨J.heap.size,1,none⟩ (.slice M (o.os.n+1) P)).cell? ⟨J.heap.size,4,none⟩=some (.slice o.si.a o.si.n o.si.c):=K8.k 4;have ew:(Q.setCell ⟨J.heap.size,1,none⟩ (.slice M (o.os.n+1) P)).cell? ⟨J.heap.size,5,none⟩=some (.slice o.so.a o.so.n o.so.c):=K8.k 5;have ev:(Q.setCell ⟨J.heap.size,1,none⟩ (.slice M (o.os.n+1) P)).cell? ⟨J.heap.size,6,none⟩=some (.slice o.sf.a o.sf.n o.sf.c):=K8.k 6;obtain⟨zl,al,aj,az,zc1,an,zc2,a1,zc3,ak,zc4,ax,zc5,ar,av⟩:=z7 bi;clear a7 L co b2 cq K7 K8 ce cp bv bi HE U cc bh a4 kB r e1 e2 ea o1 o2 bk S;refine mj ⟨jp.yes,?_⟩;refine dj 7 rfl ?_;go_wp2_with fail;refine⟨jp.yes,?_⟩;refine dj 8 rfl ?_;go_wp2_with fail;refine⟨jp.yes,?_⟩;refine NoPanic.normal ?_;go_wp2_with fail;obtain⟨ds,A,D⟩:=cu.out;have KZ:=rq D (.slice o.on.a o.on.n o.on.c) (.slice M (o.os.n+1) P) (.slice o.hs.a o.hs.n o.hs.c) (.slice o.ms.a o.ms.n o.ms.c) (.slice o.si.a o.si.n o.si.c) (.slice o.so.a o.so.n o.so.c) (.slice o.sf.a o.sf.n o.sf.c);have cj:=nf (b:=w.heap.size+2) A (by omega) (.slice o.on.a o.on.n o.on.c) (.slice M (o.os.n+1) P) (.slice o.hs.a o.hs.n o.hs.c) (.slice o.ms.a o.ms.n o.ms.c) (.slice o.si.a o.si.n o.si.c) (.slice o.so.a o.so.n o.so.c) (.slice o.sf.a o.sf.n o.sf.c);have br:=ai.set7 ds D (.slice o.on.a o.on.n o.on.c) (.slice M (o.os.n+1) P) (.slice o.hs.a o.hs.n o.hs.c) (.slice o.ms.a o.ms.n o.ms.c) (.slice o.si.a o.si.n o.si.c) (.slice o.so.a o.so.n o.so.c) (.slice o.sf.a o.sf.n o.sf.c);unfold set7 at KZ cj br;obtain⟨dc,dq,dl,dx,c7,d5,dp⟩:=cn KZ;refine Xzq (v := .tuple #[(⟨o.on,⟨M,o.os.n+1,P,l7 o.os ⟨0,m⟩⟩,o.hs,o.ms,o.si,o.so,o.sf⟩:St).val,.int .i64 0]) (by simp[results,results42,go_sem,St.val,dc,dq,dl,dx,c7,d5,dp]) rfl ?_;exact⟨⟨o.on,⟨M,o.os.n+1,P,l7 o.os ⟨0,m⟩⟩,o.hs,o.ms,o.si,o.so,o.sf⟩,by rw[W.out];rfl,br.at,⟨λ_=>dw.out,λh=>absurd W.out h⟩,λ_=>br.mono cs.out,cj⟩
theorem M7(p:Pl)(s:St)(l:Hs)(w:World)(hp:p.At w)(hs:s.At w)(hl:l.At w):
  Calls prog 54 #[p.val,s.val,l.val] w λe w'=>∃H:St,e = .returned (.tuple #[H.val,.int .i64 (gp p s l)])/\H.At w'/\du (gp p s l) (kj s l) H/\(gp p s l=0->ai w.heap.size w' H)/\Below w.heap.size w w':=by
 obtain⟨Y,hW,bh,X0,Z0⟩:=Ab w p s;have HC:Hid (∀f,Below Y.heap.size Y f->lq f w.heap.size (w.heap.size+1) p s/\p.At f/\s.At f/\Below w.heap.size w f/\Blk f (w.heap.size+2) 31 7 (λ_ => .slice .none 0 0)/\l.At f):=λf h=>⟨X0.below h,(hp.below bh).below h,(hs.below bh).below h,bh.trans (h.mono bh.size),Z0.below h,(hl.below bh).below h⟩;have HW:=hid hW;have leb:=hp.leb;have co:=hp.capb;have les:=hp.les;have ak:=hp.caps;have capb:=co;have caps:=ak;have fp:=Z0.lt;unfold maxLen at capb caps;have f1:=hl.le;have cw:=hl.cap;have dy:=cw;unfold maxLen at dy;clear hW X0 Z0 hp hs hl;unfold Pl.val St.val Hs.val;go_enter func54,ntmps54;go_wp2_with fail;rw[HW.out];obtain⟨X,E,D,m,t,r⟩:=HC.out Y brf;refine(kf p s Y E D).mono ?_;rintro e w1 ⟨rfl,y⟩;clear X E D m t r HW;obtain⟨⟨⟨l1,d0,d1⟩,l2,c0,c1,c2,c3,c4,c5,c6⟩,E,D,m,t,r⟩:=HC.out w1 y;by_cases h0:ag p s=0;rotate_left
 .have W:Hid (gp p s l=ag p s):=C2 h0;clear E D r c0 c1 c2 c3 c4 c5 c6;obtain⟨zl,ap,an,a1,zc1,ar,zc2,a3,zc3,ao,zc4,a0,zc5,au,az⟩:=z7 t;go_wp2_with fail;exact gz results54 t m (by omega) W.out h0 rfl rfl rfl
 have H0:=hid h0;have HF:Hid (cv p s):=(ed h0).fm;rw[h0];clear h0;have os4:=HF.out.os4;by_cases k1:s.os.n=4
 .have W:Hid (gp p s l=2):=yd H0.out (Or.inl k1);have g1:(4:Int)<=(s.os.n:Int):=by omega
  have g2:4<=s.os.n:=by omega
  have g3:decide ((4:Int)<=(s.os.n:Int))=true:=decide_eq_true g1;have g4:decide (4<=s.os.n)=true:=decide_eq_true g2;clear k1 os4;clear E D r;obtain⟨zl,ap,an,a1,zc1,ar,zc2,a3,zc3,ao,zc4,a0,zc5,au,az⟩:=z7 t;go_wp2_with(go_at_call 23;refine ah (ce _ _ _ _) ?_);exact gz results54 t m (by omega) W.out (by decide) rfl rfl rfl
 have g1:¬(4:Int)<=(s.os.n:Int):=by omega
 have g2:¬4<=s.os.n:=by omega
 have g3:decide ((4:Int)<=(s.os.n:Int))=false:=decide_eq_false g1;have g4:decide (4<=s.os.n)=false:=decide_eq_false g2;cases k2:inB l.n 1 3
 .have W:Hid (gp p s l=2):=yd H0.out (Or.inr (by have:=Ow k2;omega));clear k1 os4;clear E D r;obtain⟨zl,ap,an,a1,zc1,ar,zc2,a3,zc3,ao,zc4,a0,zc5,au,az⟩:=z7 t;go_wp2_with(go_at_call 23;refine ah (ce _ _ _ _) ?_);exact gz results54 t m (by omega) W.out (by decide) rfl rfl rfl
 have f3:=aq k2;have HM:Hid (¬(s.os.n=4\/¬(1<=l.n/\l.n<=3))):=by show ¬_;omega
 clear k1;obtain⟨bl,ol,P,-⟩:=r.hds 0 (by omega);have cc:=hid P;clear t E D r m;rw[P];clear P;go_wp2_with(go_at_call 23;refine ah (ce _ _ _ _) ?_);clear l1 d0 d1 l2 c0 c1 c2 c3 c4 c5 c6 g1 g2 g3 g4 k2 os4
 go_loopw [9] (λi f=>∃k:Nat,k<=l.n/\i = .int .i64 k/\(∀j,j<k->tj p (l.z j)=false)/\Below Y.heap.size Y f) (λi _=>l.n-(intOf i).toNat)
 case atStart=>exact⟨0,Qxz _,rfl,λj hj=>absurd hj (Qzq _),y⟩
 clear y;obtain⟨k,hk,rfl,bi,y⟩:=hrel;have HN:=hid bi;clear bi;obtain⟨⟨⟨l1,d0,d1⟩,l2,c0,c1,c2,c3,c4,c5,c6⟩,E,D,m,t,r⟩:=HC.out wr y;by_cases a8:k<l.n
 .obtain⟨b2,o2,P,e3,y0,y1,y2,y3⟩:=r.hds k a8;rw[cc.out] at P;simp only[Qkx,Qkz,and_true] at P;obtain⟨rfl,rfl⟩:=P;have J:Hid (tj p (l.z k)=(!(inB (l.z k).o 0 ((p.ns:Int)-1)) || !(inB (l.z k).l 1 200))):=rfl;have U:Hid (tj p (l.z k)=true->gp p s l=3):=λh=>C1 H0.out HM.out (dt a8 h);have aa:Hid (tj p (l.z k)=false->∀j,j<k+1->tj p (l.z j)=false):=λh=>vp HN.out h;have qk:(0:Int)<=(k:Int):=by omega
  generalize tj p (l.z k)=OL at *
  generalize l.z k=LZ at *
  have v0:=Qqq y0;have v1:=Qqq y1;have v2:=Qqq d0;have v3:=Qqq d1;clear y0 y1 y2 y3 d0 d1 c0 c1 c2 c3 c4 c5 c6 E D r m t l1 l2 HN;cases m1:inB LZ.o 0 ((p.ns:Int)-1)
  .have W:Hid (gp p s l=3):=U.out (by rw[J.out,m1];rfl);clear U aa J;go_wp2_with fail;refine Qxq (by kernel_rfl) (by kernel_rfl) ?_
   repeat(go_big_quiet_step(first|(go_at_call 109;exact Xxz (ua p _ _ les ak))|(go_at_call 23;exact Xxz ((ce _ _ _ _).mono (λ_ _ h=>⟨h.1,h.2▸Below.refl _ _⟩)))))
   refine Qqz ?_;intro w9 aj;have bg:Below Y.heap.size Y w9:=by obtain⟨⟨dq,dm⟩,al⟩:=aj;subst al;exact y.trans ((Qxx _ _ _).mono y.size)
   clear aj v0 v1 v2 v3 y;obtain⟨⟨⟨l1,d0,d1⟩,l2,c0,c1,c2,c3,c4,c5,c6⟩,E,D,m,t,r⟩:=HC.out w9 bg;clear E D r;obtain⟨zl,ap,an,a1,zc1,ar,zc2,a3,zc3,ao,zc4,a0,zc5,au,az⟩:=z7 t;go_wp2_with fail;exact gz results54 t m (by omega) W.out (by decide) rfl rfl rfl
  cases m2:inB LZ.l 1 200
  .have W:Hid (gp p s l=3):=U.out (by rw[J.out,m1,m2];rfl);clear U aa J;go_wp2_with fail;refine Qxq (by kernel_rfl) (by kernel_rfl) ?_
   repeat(go_big_quiet_step(first|(go_at_call 109;exact Xxz (ua p _ _ les ak))|(go_at_call 23;exact Xxz ((ce _ _ _ _).mono (λ_ _ h=>⟨h.1,h.2▸Below.refl _ _⟩)))))
   refine Qqz ?_;intro w9 aj;have bg:Below Y.heap.size Y w9:=by obtain⟨⟨dq,dm⟩,al⟩:=aj;subst al;exact y.trans ((Qxx _ _ _).mono y.size)
   clear aj v0 v1 v2 v3 y;obtain⟨⟨⟨l1,d0,d1⟩,l2,c0,c1,c2,c3,c4,c5,c6⟩,E,D,m,t,r⟩:=HC.out w9 bg;clear E D r;obtain⟨zl,ap,an,a1,zc1,ar,zc2,a3,zc3,ao,zc4,a0,zc5,au,az⟩:=z7 t;go_wp2_with fail;exact gz results54 t m (by omega) W.out (by decide) rfl rfl rfl
  have cb:Hid _:=aa.out (by rw[J.out,m1,m2];rfl);clear U aa J;go_wp2_with fail;refine Qxq (by kernel_rfl) (by kernel_rfl) ?_
  repeat(go_big_quiet_step(first|(go_at_call 109;exact Xxz (ua p _ _ les ak))|(go_at_call 23;exact Xxz ((ce _ _ _ _).mono (λ_ _ h=>⟨h.1,h.2▸Below.refl _ _⟩)))))
  refine Qqz ?_;intro w9 aj;have bg:Below Y.heap.size Y w9:=by obtain⟨⟨dq,dm⟩,al⟩:=aj;subst al;exact y.trans ((Qxx _ _ _).mono y.size)
  clear aj v0 v1 v2 v3 y;go_wp2_with fail;go_roundw
  case rel=>exact⟨k+1,by omega,by go_num,cb.out,bg⟩
  case measure=>simp[intOf];omega
 have K3:Hid (¬aw l.n (λj=>tj p (l.z j))=true):=by show ¬_;rw[ct λj hj=>HN.out j (by omega)];decide
 clear HN E D r m t l1 d0 d1 l2 c0 c1 c2 c3 c4 c5 c6;go_wp2_with fail;clear hk a8
 go_loopw [10] (λi f=>∃k:Nat,k<=l.n/\i = .int .i64 k/\(∀j,j<k->o6 (l.z j)=false)/\Below Y.heap.size Y f) (λi _=>l.n-(intOf i).toNat)
 case atStart=>exact⟨0,Qxz _,rfl,λj hj=>absurd hj (Qzq _),y⟩
 clear y;obtain⟨k,hk,rfl,bi,y⟩:=hrel;have HN:=hid bi;clear bi;obtain⟨⟨⟨l1,d0,d1⟩,l2,c0,c1,c2,c3,c4,c5,c6⟩,E,D,m,t,r⟩:=HC.out wr y;by_cases a8:k<l.n
 .obtain⟨b2,o2,P,e3,y0,y1,y2,y3⟩:=r.hds k a8;rw[cc.out] at P;simp only[Qkx,Qkz,and_true] at P;obtain⟨rfl,rfl⟩:=P;have J:Hid (o6 (l.z k)=((l.z k).b !=0||(l.z k).n !=0)):=rfl;have U:Hid (o6 (l.z k)=true->gp p s l=1):=λh=>Ee H0.out HM.out K3.out (dt a8 h);have aa:Hid (o6 (l.z k)=false->∀j,j<k+1->o6 (l.z j)=false):=λh=>vp HN.out h;have qk:(0:Int)<=(k:Int):=by omega
  generalize o6 (l.z k)=OL at *
  generalize l.z k=LZ at *
  clear c0 c1 c2 c3 c4 c5 c6 E D r HN;cases m1:(LZ.b !=0)
  .cases m2:(LZ.n !=0)
   .have cb:Hid _:=aa.out (by rw[J.out,m1,m2];rfl);clear U aa J t m;go_wp2_with fail;go_roundw
    case rel=>exact⟨k+1,by omega,by go_num,cb.out,y⟩
    case measure=>simp[intOf];omega
   have W:Hid (gp p s l=1):=U.out (by rw[J.out,m1,m2];rfl);clear U aa J;obtain⟨zl,ap,an,a1,zc1,ar,zc2,a3,zc3,ao,zc4,a0,zc5,au,az⟩:=z7 t;go_wp2_with fail;exact gz results54 t m (by omega) W.out (by decide) rfl rfl rfl
  have W:Hid (gp p s l=1):=U.out (by rw[J.out,m1];rfl);clear U aa J;obtain⟨zl,ap,an,a1,zc1,ar,zc2,a3,zc3,ao,zc4,a0,zc5,au,az⟩:=z7 t;go_wp2_with fail;exact gz results54 t m (by omega) W.out (by decide) rfl rfl rfl
 have W:Hid (gp p s l=0):=Oi H0.out HM.out K3.out (by rw[ct λj hj=>HN.out j (by omega)];decide);clear K3 HM HN;have ej:=t.lt;have ds:=hid m.size;have db:=ny p s wr D HF.out;have dr:Hid _:=db;have c7:=hid r;clear db t r E D;go_wp2_with fail;refine Calls.mono dr.out ?_;rintro e L ⟨o,rfl,F,ba,bx⟩;clear dr;have di:=y.trans (bx.mono y.size);have q3:=y.size;have q4:=bx.size;obtain⟨W5,df,av,bt⟩:=ab7 L o;have de:=hid df;have cl:=di.trans (av.mono di.size);have bw:=ai.below ba av;have ch:=(c7.out.below bx).below av;have q5:=av.size;have f8:o.os.n<=4:=by have:=HF.out.os4;have:o.os.n=s.os.n:=F.os.1;omega
 clear l1 d0 d1 l2 c0 c1 c2 c3 c4 c5 c6 m ej df;simp only[St.val];go_wp2_with fail;rw[de.out];have fc:=qa3 bw bt F;have fe:=hid ch;have r0:=Qqq (bt.k 1);have f7:L.heap.size<W5.heap.size:=bt.lt;clear ba bw bt F ch c7 de av bx;obtain⟨iO,hO,eo,ef,em⟩:=info_parts Cg;obtain⟨iL,hL,e9,eq,fa⟩:=info_parts Dt;refine tc (λw'=>∃p:Regrown,w'=grow (redrawn W5 p.d) p.os) [0,1,3] [2,4,5,6] [(true,7),(true,8),(true,9)] (Qqx (brf.drew)) ?_;simp only[dv,Qyq,Xqq,Qyx,Qyz,Xqz,Xqx]
 repeat(go_big_quiet_step(fail))
 refine Qqz ?_;clear r0;refine⟨λj v g f=>match j with|4=>DHs W5.heap.size 59 l v g f|5=>D16 W5.heap.size ⟨0,l⟩ v g f|6=>D17 W5.heap.size ⟨0,l⟩ v g f|_=>DE v g,
  Qjx ⟨λv g w w' _ h=>h,Qjx ⟨λv g w w' y h=>DHs.below h y,Qjx ⟨λv g w w' y h=>D16.below h y,Qjx ⟨λv g w w' y h=>D17.below h y,Qjq _⟩⟩⟩⟩,
  Qjx ⟨λv g w h=>by obtain⟨_,h1,_⟩:=h;rw[h1];intro x hx;simp at hx,Qjx ⟨λv g w h=>by obtain⟨_,h1,_⟩:=h;rw[h1];intro x hx;simp at hx,Qjx ⟨λv g w h=>by obtain⟨_,h1,_⟩:=h;rw[h1];intro x hx;simp at hx,Qjx ⟨λv g w h=>by obtain⟨_,_,h1,_⟩:=h;rw[h1];intro x hx;simp at hx,Qjq _⟩⟩⟩⟩,
  Qjx ⟨?zt2,Qjx ⟨?zt3,Qjx ⟨?zt4,Qjx ⟨?zt5,Qjq _⟩⟩⟩⟩,?ztdone⟩
 case zt2 =>
  intro V G f K hS hd hA hK;have T:=af hS;refine ay 2 rfl ?_;simp only[am,bu,Qvz,Qwq,Qvx,Act.put,Qvq,Qwx,Qwz] at hK ⊢;go_wp2_with fail;exact hK _ [] _ (Qqx (T.alloc T.size _)) (brf.alloc nlr _) (λx hx=>by simp at hx) ⟨f.heap.size,rfl,rfl⟩
 case zt3 =>
  intro V G f K hS hd hA hK;have T:=af hS;have q:=T.size;obtain⟨B,-,h3⟩:DE (V 2) (G 2):=hd 2 (Qjz (by kernel_rfl)) (by simp);refine ay 4 rfl ?_;simp only[am,bu,Qvz,Qwq,Qvx,Act.put,Qvq,Qwx,Qwz,h3] at hK ⊢;go_wp2_with(at_builtin;refine ov f rfl (.tmp 79) (.tmp 80) 45 rfl 59 iL (.agg #[.int .i64 0,.int .i64 0,.int .i64 0,.int .i64 0]) 4 32 underlying45 hL e9 eq fa rfl (by decide) B rfl (some ⟨bl,ol,none⟩) l.n l.c (ax l.n l.z) rfl (by rw[ep]) (λad ha=>Jc (fe.out.below T) ad (cc.out.trans ha)) (ma _ _) (λh=>by cases h) (by unfold maxLen;omega) (by omega) ?_ ?_)
  .intro h0;exact absurd h0 (by omega)
  intro h0 v' w1 ba cy;have c9:Below f.heap.size f w1:=(Below.refl _ f).grown cy nlr (by intro k hk;cases hk);obtain⟨H,rfl,hc⟩:=Bb (A:=W5.heap.size) h0 ba (by omega);exact mj (hK _ [] _ (Qqx (T.trans (c9.mono T.size))) c9 (λx hx=>by simp at hx) ⟨H,rfl,rfl,hc⟩)
 case zt4 =>
  intro V G f K hS hd hA hK;obtain⟨H,-,ez,hc⟩:DHs W5.heap.size 59 l (V 4) (G 4) f:=hd 4 (Qjz (by kernel_rfl)) (by simp);have a9:Hid (pj W5.heap.size 59 l f H):=hc;clear hc;refine ay 5 rfl ?_;simp only[am,bu,Qvz,Qwq,Qvx,Act.put,Qvq,Qwx,Qwz,ez] at hK ⊢;go_wp2_with fail;exact hK _ [] _ hS brf (λx hx=>by simp at hx) ⟨H,rfl,rfl,a9.out⟩
 case zt5 =>
  intro V G f K hS hd hA hK;have T:=af hS;obtain⟨H,-,ek,hc⟩:D16 W5.heap.size ⟨0,l⟩ (V 5) (G 5) f:=hd 5 (Qjz (by kernel_rfl)) (by simp);have a9:Hid (pj W5.heap.size 59 l f H):=hc;clear hc;refine ay 6 rfl ?_;simp only[am,bu,Qvz,Qwq,Qvx,Act.put,Qvq,Qwx,Qwz,ek] at hK ⊢;go_wp2_with fail;have dd:=(Below.refl f.heap.size f).alloc nlr (.cells #[.int .i64 0,.slice H.a H.n H.c] 57);exact hK _ [] _ (Qqx (T.alloc T.size _)) (brf.alloc nlr _) (λx hx=>by simp at hx) ⟨f.heap.size,H,rfl,rfl,T.size,Blk.mk' rfl rfl,a9.out.1,a9.out.2.1,a9.out.2.2.1.below dd,a9.out.2.2.2.below dd⟩
 case ztdone =>
  intro V G' f hS hD hA;obtain⟨BO,H,-,e8,f0,dh,e1,e2,⟨o1,o2,o3,o4⟩,-⟩:D17 W5.heap.size ⟨0,l⟩ (V 6) (G' 6) f:=hD 6 (by simp);have T:=af hS;have q1:=T.size;obtain⟨gB,ea,b7,kB⟩:=o4 (by rw[e1];show 0<l.n;omega);obtain⟨cd,K5,F⟩:=fc.out;have dk:=ai.below cd T;have K6:=K5.below T;have c8:=cl.trans (T.mono cl.size);have HE:=qa8 e1 e2 ea o1 o2 kB F b7;have ac:=qa2 dk cd;have da:=hid K6;have b5:=hid c8;have br:=hid dh;clear hS hD hA e1 e2 ea o1 o2 o3 o4 kB cd K5 F dk K6 c8 dh cl;simp only[am,bu,Qvz,Qwq,Qvx,Act.put,Qvq,Qwx,Qwz,e8];refine dj 7 rfl ?_;go_wp2_with(at_builtin;refine ta f rfl (.tmp 78) (.tmp 83) 27 rfl wr.heap.size 57 iO (.agg #[.int .i64 0,.slice none 0 0]) 2 32 underlying27 hO eo ef em rfl (by decide) o.os.a o.os.n o.os.c (jh o.os.n o.os.z) rfl ac.out.1.os.room ac.out.1.os.le ac.out.1.os.cap (sl _ _) ac.out.1.os.list ⟨BO,0,none⟩ 1 1 [.int .i64 0,.slice H.a H.n H.c] rfl rfl ?zc1 ?zc2 (by decide) ?zc3 ?zc4 ?zc5 ?_)
  case zc1 =>
   intro j u hj
   match j,hj with
   | 0,hj=>simp at hj;subst hj;exact br.out.k 0
   | 1,hj=>simp at hj;subst hj;exact br.out.k 1
  case zc2=>first|(intro u hu;simp at hu;rcases hu with rfl|rfl<;>rfl)|exact⟨rfl,rfl⟩
  case zc3=>unfold maxLen;omega
  case zc4=>omega
  case zc5=>omega
  intro v2 w2 bv M;obtain⟨e1,e2,ea,o1,o2,kB,F,b7⟩:=HE.out;obtain⟨Q,S,rfl,dl⟩:=j7.more (x:=⟨0,H⟩) ac.out.1.os bv M ea (by omega) o1 o2 kB (λi hi e=>by
   obtain⟨B,x1,x2,x3,x4,x5⟩:=ac.out.2.os.lines i hi;rw[x1] at e;have e':=e.trans ea;simp only[Qkx,Qkz,and_true] at e';have:=x5.lt;omega)
  have cm:=ac.out.1.orders M dl;have dp:=M.below b5.out (by omega) (by have:=b5.out.size;omega);have K7:=M.blk da.out (by decide);have xl:=K7.lt;have gb:=K7.frozen 1;have ga:=K7.k 1;have K8:=K7.set 1 (.slice Q (o.os.n+1) S);have dc:=cm.box K7 1 (.slice Q (o.os.n+1) S);have dn:=dp.setCell (p:=⟨L.heap.size,1,none⟩) (by show Y.heap.size<=L.heap.size;omega) (.slice Q (o.os.n+1) S);have e0:Hid (ae ⟨o.on,⟨Q,o.os.n+1,S,l7 o.os ⟨0,H⟩⟩,o.hs,o.ms,o.si,o.so,o.sf⟩ (kj s l)):=L3 F e1 e2;obtain⟨-,-,-,ci,b6,-⟩:=HC.out _ dn;have d3:=qa3 dc ci b6;have m8:=K8.lt;have f2:(w2.setCell ⟨L.heap.size,1,none⟩ (.slice Q (o.os.n+1) S)).cell? ⟨L.heap.size,0,none⟩=some (.slice o.on.a o.on.n o.on.c):=K8.k 0;have f5:(w2.setCell ⟨L.heap.size,1,none⟩ (.slice Q (o.os.n+1) S)).cell? ⟨L.heap.size,1,none⟩=some (.slice Q (o.os.n+1) S):=K8.k 1;have f9:(w2.setCell ⟨L.heap.size,1,none⟩ (.slice Q (o.os.n+1) S)).cell? ⟨L.heap.size,2,none⟩=some (.slice o.hs.a o.hs.n o.hs.c):=K8.k 2;have f4:(w2.setCell ⟨L.heap.size,1,none⟩ (.slice Q (o.os.n+1) S)).cell? ⟨L.heap.size,3,none⟩=some (.slice o.ms.a o.ms.n o.ms.c):=K8.k 3;have f6:(w2.setCell ⟨L.heap.size,1,none⟩ (.slice Q (o.os.n+1) S)).cell? ⟨L.heap.size,4,none⟩=some (.slice o.si.a o.si.n o.si.c):=K8.k 4;have gd:(w2.setCell ⟨L.heap.size,1,none⟩ (.slice Q (o.os.n+1) S)).cell? ⟨L.heap.size,5,none⟩=some (.slice o.so.a o.so.n o.so.c):=K8.k 5;have gc:(w2.setCell ⟨L.heap.size,1,none⟩ (.slice Q (o.os.n+1) S)).cell? ⟨L.heap.size,6,none⟩=some (.slice o.sf.a o.sf.n o.sf.c):=K8.k 6;obtain⟨zl,ap,an,a1,zc1,ar,zc2,a3,zc3,ao,zc4,a0,zc5,au,az⟩:=z7 b6;clear bv M dl cm dp K7 K8 dc dn ci b6 HE ac da b5 br kB F e1 e2 ea o1 o2 b7 T;refine mj ⟨jp.yes,?_⟩;refine dj 8 rfl ?_;go_wp2_with fail;refine⟨jp.yes,?_⟩;refine dj 9 rfl ?_;go_wp2_with fail;refine⟨jp.yes,?_⟩;refine NoPanic.normal ?_;go_wp2_with fail;obtain⟨ey,m,t⟩:=d3.out;have KZ:=rq t (.slice o.on.a o.on.n o.on.c) (.slice Q (o.os.n+1) S) (.slice o.hs.a o.hs.n o.hs.c) (.slice o.ms.a o.ms.n o.ms.c) (.slice o.si.a o.si.n o.si.c) (.slice o.so.a o.so.n o.so.c) (.slice o.sf.a o.sf.n o.sf.c);have dg:=nf (b:=w.heap.size+2) m (by omega) (.slice o.on.a o.on.n o.on.c) (.slice Q (o.os.n+1) S) (.slice o.hs.a o.hs.n o.hs.c) (.slice o.ms.a o.ms.n o.ms.c) (.slice o.si.a o.si.n o.si.c) (.slice o.so.a o.so.n o.so.c) (.slice o.sf.a o.sf.n o.sf.c);have cf:=ai.set7 ey t (.slice o.on.a o.on.n o.on.c) (.slice Q (o.os.n+1) S) (.slice o.hs.a o.hs.n o.hs.c) (.slice o.ms.a o.ms.n o.ms.c) (.slice o.si.a o.si.n o.si.c) (.slice o.so.a o.so.n o.so.c) (.slice o.sf.a o.sf.n o.sf.c);unfold set7 at KZ dg cf;obtain⟨ei,ew,es,e5,ec,ff,ev⟩:=cn KZ;refine Xzq (v := .tuple #[(⟨o.on,⟨Q,o.os.n+1,S,l7 o.os ⟨0,H⟩⟩,o.hs,o.ms,o.si,o.so,o.sf⟩:St).val,.int .i64 0]) (by simp[results,results54,go_sem,St.val,ei,ew,es,e5,ec,ff,ev]) rfl ?_;exact⟨⟨o.on,⟨Q,o.os.n+1,S,l7 o.os ⟨0,H⟩⟩,o.hs,o.ms,o.si,o.so,o.sf⟩,by rw[W.out];rfl,cf.at,⟨λ_=>e0.out,λh=>absurd W.out h⟩,λ_=>cf.mono ds.out,dg⟩
structure Kz(w:World)(g:Nat)(a k:Int):Prop where
 b0:Blk w (g) 3 2 (λj=>(#[.int .i64 9,.int .i64 0]:Array Value).getD j default)
 b1:Blk w (g+1) 3 2 (λj=>(#[.int .i64 3,.int .i64 0]:Array Value).getD j default)
 b2:Blk w (g+2) 3 2 (λj=>(#[.int .i64 0,.int .i64 6]:Array Value).getD j default)
 b3:Blk w (g+3) 23 3 (λj=>(#[.slice (some ⟨g,0,none⟩) 2 2,.slice (some ⟨g+1,0,none⟩) 2 2,.slice (some ⟨g+2,0,none⟩) 2 2]:Array Value).getD j default)
 b4:Blk w (g+4) 59 8 (λj=>(#[.int .i64 0,.int .i64 6,.int .i64 1,.int .i64 0,.int .i64 1,.int .i64 9,.int .i64 0,.int .i64 3]:Array Value).getD j default)
 b5:Blk w (g+5) 59 4 (λj=>(#[.int .i64 0,.int .i64 4,.int .i64 0,.int .i64 0]:Array Value).getD j default)
 b6:Blk w (g+6) 57 4 (λj=>(#[.int .i64 1,.slice (some ⟨g+4,0,none⟩) 2 2,.int .i64 k,.slice (some ⟨g+5,0,none⟩) 1 1]:Array Value).getD j default)
 b7:Blk w (g+7) 61 12 (λj=>(#[.int .i64 0,.int .i64 0,.int .i64 0,.int .i64 a,.int .i64 0,.int .i64 0,.int .i64 1,.int .i64 3,.int .i64 0,.int .i64 1,.int .i64 2,.int .i64 6]:Array Value).getD j default)
 b8:Blk w (g+8) 63 4 (λj=>(#[.int .i64 0,.int .i64 0,.int .i64 1,.int .i64 5]:Array Value).getD j default)
 b9:Blk w (g+9) 3 2 (λj=>(#[.int .i64 13,.int .i64 6]:Array Value).getD j default)
 b10:Blk w (g+10) 3 2 (λj=>(#[.int .i64 1,.int .i64 0]:Array Value).getD j default)
 b11:Blk w (g+11) 3 2 (λj=>(#[.int .i64 0,.int .i64 0]:Array Value).getD j default)
theorem Kz.below{w c:World}{g:Nat}{a k:Int}(h:Kz w g a k)(b:Below w.heap.size w c):Kz c g a k:=⟨h.b0.below b,h.b1.below b,h.b2.below b,h.b3.below b,h.b4.below b,h.b5.below b,h.b6.below b,h.b7.below b,h.b8.below b,h.b9.below b,h.b10.below b,h.b11.below b⟩
def bz0:Nat->Int
 | 0=>9
 | _=>0
def bz1:Nat->Int
 | 0=>3
 | _=>0
def bz2:Nat->Int
 | 0=>0
 | _=>6
def bzi:Nat->Int
 | 0=>13
 | _=>6
def bzo:Nat->Int
 | 0=>1
 | _=>0
def bl0:Nat->Hd
 | 0=>⟨0,6,1,0⟩
 | _=>⟨1,9,0,3⟩
def bhs(a:Int):Nat->Hd
 | 0=>⟨0,0,0,a⟩
 | 1=>⟨0,0,1,3⟩
 | _=>⟨0,1,2,6⟩
def bon(g:Nat):Nat->Rw
 | 0=>⟨some ⟨g,0,none⟩,2,2,bz0⟩
 | 1=>⟨some ⟨g+1,0,none⟩,2,2,bz1⟩
 | _=>⟨some ⟨g+2,0,none⟩,2,2,bz2⟩
def bos(g:Nat)(k:Int):Nat->Od
 | 0=>⟨1,⟨some ⟨g+4,0,none⟩,2,2,bl0⟩⟩
 | _=>⟨k,⟨some ⟨g+5,0,none⟩,1,1,λ_=>⟨0,4,0,0⟩⟩⟩
def Fl(g:Nat)(a k:Int):St:=⟨⟨some ⟨g+3,0,none⟩,3,3,bon g⟩,⟨some ⟨g+6,0,none⟩,2,2,bos g k⟩,⟨some ⟨g+7,0,none⟩,3,3,bhs a⟩,⟨some ⟨g+8,0,none⟩,1,1,λ_=>⟨0,0,1,5⟩⟩,⟨some ⟨g+9,0,none⟩,2,2,bzi⟩,⟨some ⟨g+10,0,none⟩,2,2,bzo⟩,⟨some ⟨g+11,0,none⟩,2,2,λ_=>0⟩⟩
theorem C8{n:Nat}(h:n<=100):n<=maxLen:=by unfold maxLen;omega
theorem E9{w:World}{g:Nat}{e:TypeId}{x y:Int}{z:Nat->Int}(h:Blk w g e 2 (λj=>(#[.int .i64 x,.int .i64 y]:Array Value).getD j default))(c:z 0=x)(b:z 1=y):Rw.At w ⟨some ⟨g,0,none⟩,2,2,z⟩:=by
 refine⟨Nat.le_refl _,C8 (n:=2) (by decide),λi hi => ?_⟩;have a:i<2:=hi;refine⟨g,0,rfl,h.lt,?_⟩
 match i,a with
 | 0,_=>show w.cell? ⟨g,0+0,none⟩=some (.int .i64 (z 0));rw[c];exact h.k 0
 | 1,_=>show w.cell? ⟨g,0+1,none⟩=some (.int .i64 (z 1));rw[b];exact h.k 1
theorem abh{w:World}{g:Nat}{a k:Int}(h:Kz w g a k):(Fl g a k).At w:=by
 refine⟨⟨Nat.le_refl _,C8 (n:=3) (by decide),λi hi => ?_⟩,⟨Nat.le_refl _,C8 (n:=2) (by decide),λi hi => ?_⟩,⟨Nat.le_refl _,C8 (n:=3) (by decide),λi hi => ?_,λe=>by cases e⟩,⟨Nat.le_refl _,C8 (n:=1) (by decide),λi hi => ?_,λe=>by cases e⟩,E9 h.b9 rfl rfl,E9 h.b10 rfl rfl,E9 h.b11 rfl rfl⟩
 .have b:i<3:=hi;refine⟨g+3,0,rfl,h.b3.lt,?_⟩
  match i,b with
  | 0,_=>exact⟨h.b3.k 0,E9 h.b0 rfl rfl⟩
  | 1,_=>exact⟨h.b3.k 1,E9 h.b1 rfl rfl⟩
  | 2,_=>exact⟨h.b3.k 2,E9 h.b2 rfl rfl⟩
 rotate_left
 .have b:i<3:=hi;refine⟨g+7,0,rfl,h.b7.lt,?_⟩
  match i,b with
  | 0,_=>exact⟨h.b7.k 0,h.b7.k 1,h.b7.k 2,h.b7.k 3⟩
  | 1,_=>exact⟨h.b7.k 4,h.b7.k 5,h.b7.k 6,h.b7.k 7⟩
  | 2,_=>exact⟨h.b7.k 8,h.b7.k 9,h.b7.k 10,h.b7.k 11⟩
 .have b:i<1:=hi;refine⟨g+8,0,rfl,h.b8.lt,?_⟩
  match i,b with
  | 0,_=>exact⟨h.b8.k 0,h.b8.k 1,h.b8.k 2,h.b8.k 3⟩
 have b:i<2:=hi;refine⟨g+6,0,rfl,h.b6.lt,?_⟩
 match i,b with
 | 0,_ =>
  refine⟨h.b6.k 0,h.b6.k 1,Nat.le_refl _,C8 (n:=2) (by decide),λj d => ?_,λe=>by cases e⟩;have c:j<2:=d;refine⟨g+4,0,rfl,h.b4.lt,?_⟩
  match j,c with
  | 0,_=>exact⟨h.b4.k 0,h.b4.k 1,h.b4.k 2,h.b4.k 3⟩
  | 1,_=>exact⟨h.b4.k 4,h.b4.k 5,h.b4.k 6,h.b4.k 7⟩
 | 1,_ =>
  refine⟨h.b6.k 2,h.b6.k 3,Nat.le_refl _,C8 (n:=1) (by decide),λj d => ?_,λe=>by cases e⟩;have c:j<1:=d;refine⟨g+5,0,rfl,h.b5.lt,?_⟩
  match j,c with
  | 0,_=>exact⟨h.b5.k 0,h.b5.k 1,h.b5.k 2,h.b5.k 3⟩
theorem Yo(w:World):
  Calls prog 27 #[] w λe a=>∃g,e = .returned (Fl g 2 0).val/\w.heap.size<g/\Kz a g 2 0/\Below w.heap.size w a:=by
 go_enter func27,ntmps27
 go_wp2
 refine Xzq (v:=(Fl (w.heap.size+1) 2 0).val) (by simp[results,results27,go_sem,Fl,St.val]) rfl ?_;refine⟨w.heap.size+1,rfl,by omega,⟨Blk.alloc (Blk.alloc (Blk.alloc (Blk.alloc (Blk.alloc (Blk.alloc (Blk.alloc (Blk.alloc (Blk.alloc (Blk.alloc (Blk.alloc (Blk.mk' (by simp<;>omega) rfl) _) _) _) _) _) _) _) _) _) _) _,Blk.alloc (Blk.alloc (Blk.alloc (Blk.alloc (Blk.alloc (Blk.alloc (Blk.alloc (Blk.alloc (Blk.alloc (Blk.alloc (Blk.mk' (by simp<;>omega) rfl) _) _) _) _) _) _) _) _) _) _,Blk.alloc (Blk.alloc (Blk.alloc (Blk.alloc (Blk.alloc (Blk.alloc (Blk.alloc (Blk.alloc (Blk.alloc (Blk.mk' (by simp<;>omega) rfl) _) _) _) _) _) _) _) _) _,Blk.alloc (Blk.alloc (Blk.alloc (Blk.alloc (Blk.alloc (Blk.alloc (Blk.alloc (Blk.alloc (Blk.mk' (by simp<;>omega) rfl) _) _) _) _) _) _) _) _,Blk.alloc (Blk.alloc (Blk.alloc (Blk.alloc (Blk.alloc (Blk.alloc (Blk.alloc (Blk.mk' (by simp<;>omega) rfl) _) _) _) _) _) _) _,Blk.alloc (Blk.alloc (Blk.alloc (Blk.alloc (Blk.alloc (Blk.alloc (Blk.mk' (by simp<;>omega) rfl) _) _) _) _) _) _,Blk.alloc (Blk.alloc (Blk.alloc (Blk.alloc (Blk.alloc (Blk.mk' (by simp<;>omega) rfl) _) _) _) _) _,Blk.alloc (Blk.alloc (Blk.alloc (Blk.alloc (Blk.mk' (by simp<;>omega) rfl) _) _) _) _,Blk.alloc (Blk.alloc (Blk.alloc (Blk.mk' (by simp<;>omega) rfl) _) _) _,Blk.alloc (Blk.alloc (Blk.mk' (by simp<;>omega) rfl) _) _,Blk.alloc (Blk.mk' (by simp<;>omega) rfl) _,Blk.mk' (by simp<;>omega) rfl⟩,?_⟩;exact((((((((((((brf.alloc nlr _).alloc (by simp<;>omega) _).alloc (by simp<;>omega) _).alloc (by simp<;>omega) _).alloc (by simp<;>omega) _).alloc (by simp<;>omega) _).alloc (by simp<;>omega) _).alloc (by simp<;>omega) _).alloc (by simp<;>omega) _).alloc (by simp<;>omega) _).alloc (by simp<;>omega) _).alloc (by simp<;>omega) _).alloc (by simp<;>omega) _
theorem Hi{n:Nat}{f:Nat->Bool}(h:n=0):aw n f=false:=ct λj a=>absurd a (by omega)
theorem uh{z:Nat->Int}:∀{n:Nat},(∀j,j<n->z j=0)->cu z n=0
 | 0,_=>rfl
 | n+1,h=>by simp only[cu];rw[uh (n:=n) λj a=>h j (by omega),h n (by omega)];rfl
theorem Sb{p:Pl}{s:St}(a:iy p=0)(b:zr p s):um p s.on :=
 ⟨Mp a,b.1,λi hi=>(b.2.1 i (by have:=b.1;omega)).1,λi hi j c=>by rw[(b.2.1 i (by have:=b.1;omega)).2 j c];omega⟩
theorem R9{p:Pl}{s:St}(b:zr p s){i j:Nat}(hi:i<p.nb)(d:j<p.ns):ar s i j=0:=by
 obtain⟨-,c,-,a,e,-⟩:=b;unfold ar;rw[a,e,(c i hi).2 j d]
 rfl
theorem Hl{p:Pl}{r:Rw}{low:Int}(h:r.n=p.ns/\∀j,j<p.ns->r.z j=0)(a:low<=0):lr p r low=false:=by
 unfold lr;rw[Xxq];refine⟨by simp[h.1],ct λj b => ?_⟩;rw[h.2 j (by rw[<-h.1];exact b),bq ⟨a,by omega⟩]
 rfl
theorem Jm{p:Pl}{s:St}(f:iy p=0)(b:zr p s):ag p s=0:=by
 have w:=wi f (Sb f b);have v:=b;obtain⟨x,r,c,q,j,d,h,e⟩:=v;have k:fs s=false:=by unfold fs;rw[c,j];rfl
 have m:jf p s=false:=Hi c;have u:gj p s=false:=by unfold gj;rw[q];rfl
 have n:j8 p s=false:=Hi j;have o:fj p s=false:=by
  unfold fj;rw[Hl d (by omega),Hl h (by omega),Hl e (by omega)]
  rfl
 have t:kw p s=false:=ct λg a=>by
  rw[pu,uh (λi hi=>(r i (by omega)).2 g a),d.2 g a,h.2 g a,e.2 g a,ct λi hi=>by rw[R9 b hi a];rfl]
  rfl
 have l:je s=false:=Hi c;rw[Af w k m u n o,t,l]
 rfl
theorem Jv{p:Pl}{s:St}{l:Hs}(h:gp p s l=0):ag p s=0/\1<=l.n/\l.n<=3/\¬s.os.n=4/\aw l.n (λj=>tj p (l.z j))=false/\aw l.n (λj=>o6 (l.z j))=false:=by
 by_cases a:ag p s=0
 .by_cases b:s.os.n=4\/¬(1<=l.n/\l.n<=3)
  .rw[yd a b] at h;exact absurd h (by decide)
  cases c:aw l.n (λj=>tj p (l.z j))
  .cases d:aw l.n (λj=>o6 (l.z j))
   .exact⟨a,by omega,by omega,by omega,rfl,rfl⟩
   rw[Ee a b (by rw[c];decide) d] at h;exact absurd h (by decide)
  rw[C1 a b c] at h;exact absurd h (by decide)
 rw[C2 a] at h;exact absurd h a
theorem km{p:Pl}{s:St}{g:Nat}(h:ij p s g=false):cu (λi=>(s.on.r i).z g) s.on.n=s.si.z g-s.so.z g+s.sf.z g/\∀b,b<p.nb->0<=ar s b g:=by
 rw[pu,Xxq] at h;refine⟨by simpa using h.1,λb a => ?_⟩;have:=di h.2 b a
 simpa using this
theorem rm{p:Pl}{s:St}{g:Nat}(d:cu (λi=>(s.on.r i).z g) s.on.n=s.si.z g-s.so.z g+s.sf.z g)(a:∀b,b<p.nb->0<=ar s b g):ij p s g=false:=by
 rw[pu,Xxq];exact⟨by simp[d],ct λb c=>by have:=a b c;simpa using this⟩
theorem J4{p:Pl}{s:St}{bin good n:Int}(h:gt p s bin good n=0):ag p s=0/\(0<=bin/\bin<p.nb)/\(0<=good/\good<p.ns)/\(1<=n/\n<=200)/\n*p.zs good.toNat<=fw p s bin.toNat/\dw s bin.toNat good.toNat+n<=200/\s.si.z good.toNat+n<=1048576:=by
 unfold gt at h;by_cases e:ag p s=0;rotate_left
 .rw[if_neg e] at h;exact absurd h e
 rw[if_pos e] at h;cases d:(inB bin 0 ((p.nb:Int)-1)&&inB good 0 ((p.ns:Int)-1)&&inB n 1 200)
 .rw[d] at h;simp at h
 rw[d] at h;simp only[if_true] at h;simp only[Xxx] at d;have a:=aq d.1.1;have b:=aq d.1.2;have c:=aq d.2;by_cases f:fw p s bin.toNat<n*p.zs good.toNat
 .rw[if_pos f] at h;simp at h
 rw[if_neg f] at h;by_cases g:200<dw s bin.toNat good.toNat+n\/1048576<s.si.z good.toNat+n
 .rw[if_pos g] at h;simp at h
 exact⟨e,by omega,by omega,c,by omega,by omega,by omega⟩
section
variable {p:Pl} {s:St} {b g:Nat} {n:Int}
theorem Ge(i j:Nat):((li s b g n).on.r i).z j=(s.on.r i).z j+if i=b/\j=g then n else 0:=by
 show(if i=b then ku (s.on.r i) g ((s.on.r b).z g+n) else s.on.r i).z j=_;by_cases hi:i=b
 .subst hi;rw[if_pos rfl];show(if j=g then(s.on.r i).z g+n else(s.on.r i).z j)=_;by_cases a:j=g
  .subst a;simp
  simp[a]
 rw[if_neg hi];simp[hi]
theorem Zl(i:Nat):((li s b g n).on.r i).n=(s.on.r i).n:=by
 show(if i=b then ku (s.on.r i) g ((s.on.r b).z g+n) else s.on.r i).n=_;by_cases hi:i=b
 .rw[if_pos hi];rfl
 rw[if_neg hi]
theorem Te(j:Nat):(li s b g n).si.z j=s.si.z j+if j=g then n else 0:=by
 show(if j=g then s.si.z g+n else s.si.z j)=_;by_cases a:j=g
 .subst a;simp
 simp[a]
theorem Va(i j:Nat):ar (li s b g n) i j=ar s i j+if i=b/\j=g then n else 0:=by
 unfold ar;have a:bw (li s b g n) i j (li s b g n).hs.n=bw s i j s.hs.n:=qy (λ_ _=>rfl) (λ_ _=>rfl);have c:az (li s b g n) i j (li s b g n).ms.n=az s i j s.ms.n:=ox (λ_ _=>rfl);rw[Ge,a,c];omega
theorem Vb(r:au p s)(l:b<p.nb)(t:g<p.ns)(q:1<=n)(k:dw s b g+n<=200)(u:s.si.z g+n<=1048576):au p (li s b g n):=by
 have f:=r.fm;have h:b<s.on.n:=by rw[f.sh.n];exact l
 have hc:=(lj (s:=s) (b:=b) (g:=g) f.moveN).1;have hs:um p (li s b g n).on:=by
  refine⟨f.sh.pl,f.sh.n,λi hi=>by rw[Zl];exact f.sh.len i hi,λi hi j c => ?_⟩;have:=f.sh.num i hi j c;rw[Ge];by_cases d:i=b/\j=g
  .obtain⟨rfl,rfl⟩:=d;rw[if_pos ⟨rfl,rfl⟩];unfold dw at k;omega
  rw[if_neg d];omega
 refine⟨⟨hs,wi (uq f.sh0).1 hs,f.os4,f.ms8,f.lns,f.kind,f.line,f.hold,f.home,f.move,f.sin,f.son,f.sfn,λj c => ?_,f.sob,f.sfb⟩,λj c => ?_,r.orders⟩
 .have:=f.sib j c;rw[Te];by_cases a:j=g
  .subst a;rw[if_pos rfl];omega
  rw[if_neg a];omega
 obtain⟨a1,o⟩:=km (r.goods j c);refine rm ?_ λi hi => ?_
 .show cu (λi=>((li s b g n).on.r i).z j) s.on.n=(li s b g n).si.z j-s.so.z j+s.sf.z j;rw[Te];by_cases a:j=g
  .subst a;rw[Br (z:=λi=>(s.on.r i).z j) (m:=b) (n:=n) h λi hi=>by
    show((li s b j n).on.r i).z j=_;rw[Ge];by_cases e:i=b<;>simp[e],if_pos rfl,a1]
   omega
  rw[re (z':=λi=>(s.on.r i).z j) λi hi=>by
   show((li s b g n).on.r i).z j=_;rw[Ge];simp[a],if_neg a,a1]
  omega
 rw[Va];have:=o i hi
 split<;>omega
end
section
variable {p:Pl} {s:St} {l:Hs}
theorem zg{i:Nat}(hi:i<s.os.n):(kj s l).os.z i=s.os.z i:=by
 show(if i=s.os.n then(⟨0,l⟩:Od) else s.os.z i)=_;rw[if_neg (by omega)]
theorem Dr:(kj s l).os.z s.os.n=⟨0,l⟩:=by
 show(if s.os.n=s.os.n then(⟨0,l⟩:Od) else s.os.z s.os.n)=_;rw[if_pos rfl]
theorem Me{z:Nat->Hd}{o l:Int}:∀{n:Nat},(∀j,j<n->¬(z j).o=o)->keptS z o l n=0
 | 0,_=>rfl
 | n+1,h=>by
  simp only[keptS];rw[Me (n:=n) λj a=>h j (by omega),if_neg λe=>h n (by omega) e.1]
  rfl
theorem Sm(h:gp p s l=0):au p (kj s l):=by
 obtain⟨H,y,E,K,x,F⟩:=Jv h;have r:=ed H;have f:=r.fm;have os4:=f.os4;have ln:∀j,j<l.n->((0<=(l.z j).o/\(l.z j).o<p.ns)/\1<=(l.z j).l/\(l.z j).l<=200)/\(l.z j).b=0/\(l.z j).n=0:=λj c=>by
  have a:=di x j c;have b:=di F j c;simp only[tj,o6,Xxq,Bool.not_eq_false',bne_eq_false_iff_eq] at a b;have a1:=aq a.1;have d:=aq a.2;exact⟨⟨by omega,d⟩,b⟩
 have G:∀j,j<l.n->jy p (l.z j)=false:=λj c=>by
  obtain⟨⟨a1,d⟩,m,t⟩:=ln j c;unfold jy;rw[bq (by omega),bq (by omega),bq (by omega),bq (by omega)]
  rfl
 have v:∀j,j<s.hs.n->jo (kj s l) (s.hs.z j)=jo s (s.hs.z j):=λj c=>by
  have:=(iq (f.home j c)).1;unfold jo;rw[zg this.2]
 have u:∀b g,ar (kj s l) b g=ar s b g:=λb g=>by
  unfold ar;have w:bw (kj s l) b g (kj s l).hs.n=bw s b g s.hs.n:=qy (λ_ _=>rfl) v;have B:az (kj s l) b g (kj s l).ms.n=az s b g s.ms.n:=ox (λ_ _=>rfl);rw[w,B]
  rfl
 have k:∀i,i<(kj s l).os.n->i<s.os.n\/i=s.os.n:=λi hi=>by
  have:i<s.os.n+1:=hi;omega
 refine⟨⟨f.sh,f.sh0,by show s.os.n+1<=4;omega,f.ms8,λi hi => ?_,λi hi => ?_,λi hi j c => ?_,f.hold,λi hi => ?_,f.move,f.sin,f.son,f.sfn,f.sib,f.sob,f.sfb⟩,λg J => ?_,λi hi => ?_⟩
 .rcases k i hi with h|rfl
  .rw[zg h];exact f.lns i h
  rw[Dr];exact⟨y,E⟩
 .rcases k i hi with h|rfl
  .rw[zg h];exact f.kind i h
  rw[Dr];show(0:Int)<=0/\(0:Int)<=2;omega
 .rcases k i hi with h|rfl
  .rw[zg h] at c ⊢;exact f.line i h j c
  rw[Dr] at c ⊢;exact G j c
 .obtain⟨a1,d,m⟩:=iq (f.home i hi);refine pe (s:=kj s l) ⟨a1.1,?_⟩ ⟨d.1,?_⟩ m
  .show _<s.os.n+1;have:=a1.2;show(s.hs.z i).o.toNat<s.os.n+1;omega
  show(s.hs.z i).l.toNat<((kj s l).os.z (s.hs.z i).o.toNat).ls.n;rw[zg a1.2];exact d.2
 .obtain⟨a1,d⟩:=km (r.goods g J);exact rm a1 λb A=>by rw[u];exact d b A
 rcases k i hi with h|rfl
 .have:=r.orders i h;unfold cf at this ⊢;rw[zg h];exact this
 unfold cf;rw[Dr];show(((0:Int)==1 && !aw l.n (λj=>jr (l.z j)))||aw l.n (λj=>co 0 (l.z j) (keptS s.hs.z s.os.n j s.hs.n)))=false;rw[Xxq];refine⟨by simp,ct λj c => ?_⟩;obtain⟨-,m,t⟩:=ln j c;rw[Me λq D e=>by have:=(iq (f.home q D)).1;omega];unfold co;rw[if_pos rfl,m,t]
 rfl
end
theorem rt{z z':Nat->Int}{m:Nat}{n:Int}{k:Nat}(a:m<k)(h:∀i,i<k->z' i=z i+if i=m then n else 0):cu z' k=cu z k+n :=
 Br a λi hi=>by rw[h i hi];by_cases e:i=m<;>simp[e]
theorem s9{z z':Nat->Int}{k:Nat}(h:∀i,i<k->z' i=z i):cu z' k=cu z k:=re h
def ko(x:St)(b g:Int)(k:Nat)(o l:Nat):Int:=if ((x.os.z o).ls.z l).o=g then keptV k x.hs.z o l b else 0
def Aq(x:St)(b g:Int)(k:Nat):Int:=cu (λo=>cu (λl=>ko x b g k o l) (x.os.z o).ls.n) x.os.n
theorem sq{p:Pl}{x:St}(b g:Int):∀k,(∀j,j<k->i6 p x (x.hs.z j)=false)->aw k (cz x.hs.z)=false->bw x b g k=Aq x b g k
 | 0,_,_=>by
  unfold Aq;rw[uh λo _=>uh λl _=>by unfold ko keptV;simp]
  rfl
 | k+1,h,hr=>by
  simp only[bw];rw[sq b g k (λj B=>h j (by omega)) (Gl hr)];obtain⟨t,v,y⟩:=iq (h k (by omega));have key:∀o l,ko x b g (k+1) o l=ko x b g k o l+if o=(x.hs.z k).o.toNat/\l=(x.hs.z k).l.toNat then(if (x.hs.z k).b=b/\jo x (x.hs.z k)=g then(x.hs.z k).n else 0) else 0:=λo l=>by
   unfold ko;rw[Fz hr];by_cases i:o=(x.hs.z k).o.toNat/\l=(x.hs.z k).l.toNat;rotate_left
   .rw[if_neg i];have:be (x.hs.z k) o l b=false:=by
     cases c:be (x.hs.z k) o l b
     .rfl
     have:=fh c;exact absurd ⟨by omega,by omega⟩ i
    rw[this];simp
   rw[if_pos i];obtain⟨rfl,rfl⟩:=i;have s:(((x.hs.z k).o.toNat:Nat):Int)=(x.hs.z k).o:=by omega
   have u:(((x.hs.z k).l.toNat:Nat):Int)=(x.hs.z k).l:=by omega
   rw[s,u];by_cases m:jo x (x.hs.z k)=g
   .have a:((x.os.z (x.hs.z k).o.toNat).ls.z (x.hs.z k).l.toNat).o=g:=m;rw[if_pos a,if_pos a];by_cases q:(x.hs.z k).b=b
    .have c:be (x.hs.z k) (x.hs.z k).o (x.hs.z k).l b=true:=by rw[<-q];exact uv _
     have r:(if (x.hs.z k).b=b/\jo x (x.hs.z k)=g then(x.hs.z k).n else 0)=(x.hs.z k).n:=if_pos ⟨q,m⟩;rw[c,r,if_pos rfl]
    have c:be (x.hs.z k) (x.hs.z k).o (x.hs.z k).l b=false:=by
     cases c:be (x.hs.z k) (x.hs.z k).o (x.hs.z k).l b
     .rfl
     exact absurd (fh c).2.2 q
    have r:(if (x.hs.z k).b=b/\jo x (x.hs.z k)=g then(x.hs.z k).n else 0)=0:=if_neg (λe=>q e.1);rw[c,r];simp
   have a:¬((x.os.z (x.hs.z k).o.toNat).ls.z (x.hs.z k).l.toNat).o=g:=m;rw[if_neg a,if_neg a,if_neg (λe=>m e.2)]
   rfl
  unfold Aq;refine(rt t.2 λo A => ?_).symm;by_cases f:o=(x.hs.z k).o.toNat
  .rw[if_pos f];subst f;exact rt v.2 λl w=>by
    rw[key];by_cases d:l=(x.hs.z k).l.toNat
    .rw[if_pos ⟨rfl,d⟩,if_pos d]
    rw[if_neg (λe=>d e.2),if_neg d]
  rw[if_neg f,Int.add_zero];exact s9 λl w=>by rw[key,if_neg (λe=>f e.1)];omega
def iz(x:Hd)(n:Int):Hd:=⟨x.o,x.l,x.b,x.n-n⟩
structure er(s:St)(o l:Nat)(n:Int)(t:Tk)(x:St):Prop where
 on:x.on.n=s.on.n/\∀i,i<x.on.n->(x.on.r i).n=(s.on.r i).n/\∀j,j<(x.on.r i).n->(x.on.r i).z j=(s.on.r i).z j
 os:x.os.n=s.os.n/\∀i,i<x.os.n->(x.os.z i).k=(s.os.z i).k/\(x.os.z i).ls.n=(s.os.z i).ls.n/\∀j,j<(x.os.z i).ls.n->(x.os.z i).ls.z j=if i=o/\j=l then iz ((s.os.z i).ls.z j) (n-t.left) else(s.os.z i).ls.z j
 right:aw x.hs.n (cz x.hs.z)=false
 kept:∀a b c:Int,keptV x.hs.n x.hs.z a b c=keptV s.hs.n s.hs.z a b c+if a=o/\b=l then t.took c else 0
 ms:x.ms.n=s.ms.n/\∀j,j<x.ms.n->x.ms.z j=s.ms.z j
 si:x.si.n=s.si.n/\∀j,j<x.si.n->x.si.z j=s.si.z j
 so:x.so.n=s.so.n/\∀j,j<x.so.n->x.so.z j=s.so.z j
 sf:x.sf.n=s.sf.n/\∀j,j<x.sf.n->x.sf.z j=s.sf.z j
theorem er.same{s:St}{o l:Nat}{n:Int}{t:Tk}{x y:St}(h:er s o l n t x)(k:er s o l n t y):ae x y:=by
 have e:∀i,i<x.os.n->i<y.os.n:=λi hi=>by rw[k.os.1,<-h.os.1];exact hi
 refine⟨⟨h.on.1.trans k.on.1.symm,λi hi => ?_⟩,⟨h.os.1.trans k.os.1.symm,λi hi => ?_⟩,Xr h.right k.right λa b c=>(h.kept a b c).trans (k.kept a b c).symm,⟨h.ms.1.trans k.ms.1.symm,λj d=>(h.ms.2 j d).trans (k.ms.2 j (by rw[k.ms.1,<-h.ms.1];exact d)).symm⟩,⟨h.si.1.trans k.si.1.symm,λj d=>(h.si.2 j d).trans (k.si.2 j (by rw[k.si.1,<-h.si.1];exact d)).symm⟩,⟨h.so.1.trans k.so.1.symm,λj d=>(h.so.2 j d).trans (k.so.2 j (by rw[k.so.1,<-h.so.1];exact d)).symm⟩,⟨h.sf.1.trans k.sf.1.symm,λj d=>(h.sf.2 j d).trans (k.sf.2 j (by rw[k.sf.1,<-h.sf.1];exact d)).symm⟩⟩
 .have a:=h.on.2 i hi;have b:=k.on.2 i (by rw[k.on.1,<-h.on.1];exact hi);exact⟨a.1.trans b.1.symm,λj d=>(a.2 j d).trans (b.2 j (by rw[b.1,<-a.1];exact d)).symm⟩
 have a:=h.os.2 i hi;have b:=k.os.2 i (e i hi);exact⟨a.1.trans b.1.symm,a.2.1.trans b.2.1.symm,λj d=>(a.2.2 j d).trans (b.2.2 j (by rw[b.2.1,<-a.2.1];exact d)).symm⟩
section
variable {p:Pl} {s x:St} {o l:Nat} {n:Int} {t:Tk}
theorem er.line(h:er s o l n t x){i j:Nat}(hi:i<s.os.n)(b:j<(s.os.z i).ls.n):(x.os.z i).ls.z j=if i=o/\j=l then iz ((s.os.z i).ls.z j) (n-t.left) else(s.os.z i).ls.z j:=by
 have a:=h.os.2 i (by rw[h.os.1];exact hi);exact a.2.2 j (by rw[a.2.1];exact b)
theorem er.good(h:er s o l n t x){i j:Nat}(hi:i<s.os.n)(a:j<(s.os.z i).ls.n):((x.os.z i).ls.z j).o=((s.os.z i).ls.z j).o:=by
 rw[h.line hi a]
 split<;>rfl
theorem er.keptS(h:er s o l n t x)(f:cv p s)(e:cu (λb=>t.took b) 6=n-t.left)(a b:Int):Go.Proofs.YtbcacebifpagpagGreat.keptS x.hs.z a b x.hs.n=Go.Proofs.YtbcacebifpagpagGreat.keptS s.hs.z a b s.hs.n+if a=o/\b=l then n-t.left else 0:=by
 rw[<-xf x.hs.z a b _ h.right,<-xf s.hs.z a b _ f.hold];by_cases d:a=o/\b=l
 .rw[if_pos d,<-e];have:∀m,cu (λc=>keptV x.hs.n x.hs.z a b c) m=cu (λc=>keptV s.hs.n s.hs.z a b c) m+cu (λc=>t.took c) m:=λm=>by
   induction m with
   | zero=>rfl
   | succ m ih=>simp only[cu];rw[ih,h.kept,if_pos d];omega
  exact this 6
 rw[if_neg d,Int.add_zero];exact s9 λc _=>by rw[h.kept,if_neg d];omega
theorem er.home(h:er s o l n t x)(f:cv p s)(u:o<s.os.n)(D:l<(s.os.z o).ls.n)(q:∀b,¬t.took b=0->0<=b/\b<p.nb):∀i,i<x.hs.n->i6 p x (x.hs.z i)=false:=by
 intro i hi;have fx:=cx (ca h.right i hi);have e:=(np h.right hi (uv (x.hs.z i))).1;rw[h.kept] at e;have c:∀a,a<s.os.n->(x.os.z a).ls.n=(s.os.z a).ls.n:=λa E=>(h.os.2 a (by rw[h.os.1];exact E)).2.1;by_cases j:keptV s.hs.n s.hs.z (x.hs.z i).o (x.hs.z i).l (x.hs.z i).b=0
 .by_cases d:(x.hs.z i).o=o/\(x.hs.z i).l=l
  .rw[if_pos d,j] at e;have w:=q (x.hs.z i).b (by omega);have r:(x.hs.z i).o.toNat=o:=by omega
   have v:(x.hs.z i).l.toNat=l:=by omega
   refine pe ⟨by omega,by rw[h.os.1];omega⟩ ⟨by omega,?_⟩ w;rw[r,v,c o u];exact D
  rw[if_neg d,j] at e;omega
 obtain⟨F,B,-⟩:=rp f.hold j;obtain⟨a1,g,k⟩:=iq (f.home _ F);obtain⟨m,y,A⟩:=fh B;rw[m,y] at g;rw[m] at a1;rw[A] at k;exact pe ⟨a1.1,by rw[h.os.1];exact a1.2⟩ ⟨g.1,by rw[c _ a1.2];exact g.2⟩ k
theorem er.num(h:er s o l n t x)(f:cv p s){b g:Nat}(c:b<p.nb)(d:g<p.ns):(x.on.r b).z g=(s.on.r b).z g:=by
 have a:b<s.on.n:=by rw[f.sh.n];exact c
 have r:=h.on.2 b (by rw[h.on.1];exact a);exact r.2 g (by rw[r.1,f.sh.len b a];exact d)
theorem er.formed(h:er s o l n t x)(f:cv p s)(m:o<s.os.n)(r:l<(s.os.z o).ls.n)(k:∀b,¬t.took b=0->0<=b/\b<p.nb)(v:0<=n-t.left)(u:n-t.left<=((s.os.z o).ls.z l).n):cv p x:=by
 have q:=(uq f.sh0).1;have hs:um p x.on:=⟨f.sh.pl,h.on.1.trans f.sh.n,λi hi=>(h.on.2 i hi).1.trans (f.sh.len i (by rw[<-h.on.1];exact hi)),λi hi j a=>by
  have e:i<s.on.n:=by rw[<-h.on.1];exact hi
  rw[h.num f (by rw[<-f.sh.n];exact e) a];exact f.sh.num i e j a⟩
 have d:∀i,i<x.os.n->i<s.os.n:=λi hi=>by rw[<-h.os.1];exact hi
 refine⟨hs,wi q hs,by rw[h.os.1];exact f.os4,by rw[h.ms.1];exact f.ms8,λi hi=>by rw[(h.os.2 i hi).2.1];exact f.lns i (d i hi),λi hi=>by rw[(h.os.2 i hi).1];exact f.kind i (d i hi),λi hi j a => ?_,h.right,h.home f m r k,λi hi => ?_,h.si.1.trans f.sin,h.so.1.trans f.son,h.sf.1.trans f.sfn,λj a => ?_,λj a => ?_,λj a => ?_⟩
 .have g:j<(s.os.z i).ls.n:=by rw[<-(h.os.2 i hi).2.1];exact a
  rw[(h.os.2 i hi).2.2 j a];by_cases c:i=o/\j=l
  .rw[if_pos c];obtain⟨rfl,rfl⟩:=c;obtain⟨b1,b2,b3,b4⟩:=dz (f.line i (d i hi) j g);unfold jy iz;rw[bq (by show _/\_;dsimp only;omega),bq (by show _/\_;dsimp only;omega),bq (by show _/\_;dsimp only;omega),bq (by show _/\_;dsimp only;omega)]
   rfl
  rw[if_neg c];exact f.line i (d i hi) j g
 .rw[h.ms.2 i hi];exact f.move i (by rw[<-h.ms.1];exact hi)
 .rw[h.si.2 j (by rw[h.si.1,f.sin];exact a)];exact f.sib j a
 .rw[h.so.2 j (by rw[h.so.1,f.son];exact a)];exact f.sob j a
 rw[h.sf.2 j (by rw[h.sf.1,f.sfn];exact a)];exact f.sfb j a
theorem er.held(h:er s o l n t x)(f:cv p s)(fx:cv p x)(w:o<s.os.n)(y:l<(s.os.z o).ls.n)(b g:Int):bw x b g x.hs.n=bw s b g s.hs.n+if ((s.os.z o).ls.z l).o=g then t.took b else 0:=by
 rw[sq b g _ fx.home fx.hold,sq b g _ f.home f.hold];have r:∀a,a<s.os.n->(x.os.z a).ls.n=(s.os.z a).ls.n:=λa v=>(h.os.2 a (by rw[h.os.1];exact v)).2.1;have key:∀i,i<s.os.n->∀j,j<(s.os.z i).ls.n->ko x b g x.hs.n i j=ko s b g s.hs.n i j+if i=o/\j=l then(if ((s.os.z o).ls.z l).o=g then t.took b else 0) else 0:=λi hi j d=>by
  unfold ko;rw[h.good hi d,h.kept];by_cases k:i=o/\j=l
  .have q:(if ((i:Nat):Int)=o/\((j:Nat):Int)=l then t.took b else 0)=t.took b:=if_pos (by omega);rw[q,if_pos k];obtain⟨rfl,rfl⟩:=k;by_cases u:((s.os.z i).ls.z j).o=g<;>simp[u]
  have q:(if ((i:Nat):Int)=o/\((j:Nat):Int)=l then t.took b else 0)=0:=if_neg (by omega);rw[q,if_neg k];by_cases u:((s.os.z i).ls.z j).o=g<;>simp[u]
 unfold Aq;rw[h.os.1];refine rt w λi hi => ?_;rw[r i hi];by_cases m:i=o
 .subst m;rw[if_pos rfl];exact rt y λj d=>by
   rw[key i hi j d];by_cases c:j=l
   .rw[if_pos ⟨rfl,c⟩,if_pos c]
   rw[if_neg (λe=>c e.2),if_neg c]
 rw[if_neg m,Int.add_zero];exact s9 λj d=>by rw[key i hi j d,if_neg (λe=>m e.1),Int.add_zero]
theorem er.avail(h:er s o l n t x)(f:cv p s)(fx:cv p x)(c:o<s.os.n)(a:l<(s.os.z o).ls.n){b g:Nat}(d:b<p.nb)(e:g<p.ns):ar x b g=ar s b g-if ((s.os.z o).ls.z l).o=g then t.took b else 0:=by
 unfold ar;rw[h.num f d e,h.held f fx c a,h.ms.1,ox λj i=>h.ms.2 j (by rw[h.ms.1];exact i)];omega
theorem er.isRight(h:er s o l n t x)(r:au p s)(B:o<s.os.n)(F:l<(s.os.z o).ls.n)(K:(s.os.z o).k=1)(E:∀b,¬t.took b=0->0<=b/\b<p.nb)(M:0<=n-t.left)(H:n-t.left<=((s.os.z o).ls.z l).n)
  (A:∀b:Nat,b<p.nb->t.took b<=ar s b ((s.os.z o).ls.z l).o.toNat) (P:∀b,0<=t.took b) (y:cu (λb=>t.took b) 6=n-t.left):au p x:=by
 have f:=r.fm;have fx:=h.formed f B F E M H;refine⟨fx,λg d => ?_,λi hi => ?_⟩
 .obtain⟨a1,L⟩:=km (r.goods g d);refine rm ?_ λb v => ?_
  .have e:cu (λi=>(x.on.r i).z g) x.on.n=cu (λi=>(s.on.r i).z g) s.on.n:=by
    rw[h.on.1];exact re λi hi=>h.num f (by rw[<-f.sh.n];exact hi) d
   rw[e,a1,h.si.2 g (by rw[h.si.1,f.sin];exact d),h.so.2 g (by rw[h.so.1,f.son];exact d),h.sf.2 g (by rw[h.sf.1,f.sfn];exact d)]
  rw[h.avail f fx B F v d];have S:=L b v;by_cases m:((s.os.z o).ls.z l).o=g
  .rw[if_pos m];have:=A b v;rw[m] at this;have e:((g:Nat):Int).toNat=g:=rfl;rw[e] at this;omega
  rw[if_neg m];omega
 have u:i<s.os.n:=by rw[<-h.os.1];exact hi
 have w:=r.orders i u;obtain⟨G,J,Q⟩:=h.os.2 i hi;have D:=λj c=>h.line (i:=i) (j:=j) u c;unfold cf at w ⊢;rw[Xxq] at w ⊢;rw[G,J];refine⟨?_,ct λj c => ?_⟩
 .rw[<-w.1]
  congr 2
  refine nz λj c => ?_;rw[D j c]
  split<;>rfl
 have a:=di w.2 j c;rw[h.keptS f y,D j c];by_cases q:i=o/\j=l
 .obtain⟨rfl,rfl⟩:=q;rw[if_pos ⟨rfl,rfl⟩,if_pos ⟨rfl,rfl⟩];rw[K] at a ⊢;unfold co at a ⊢;simp only[iz] at a ⊢;rw[if_neg (by decide),if_neg (by decide)] at a ⊢;simp only[Bool.not_eq_false',beq_iff_eq] at a ⊢;omega
 rw[if_neg q,if_neg (λe=>q ⟨by omega,by omega⟩),Int.add_zero];exact a
end
def xi(s:St)(order line:Int):Bool := !(inB order 0 ((s.os.n:Int)-1)) || !(inB line 0 (((s.os.z order.toNat).ls.n:Int)-1))
def qe(p:Pl)(s:St)(order line n but:Int):Bool:=xi s order line || !(inB n 0 200)||((but !=-1) && !(inB but 0 ((p.nb:Int)-1)))
def fi(s:St)(order line:Int):Hd:=(s.os.z order.toNat).ls.z line.toNat
def ew(p:Pl)(s:St)(order line n but:Int):Int :=
 if ag p s=0 then(if qe p s order line n but then 3 else if (s.os.z order.toNat).k=1 then(if (fi s order line).n<n then 3 else 0) else 6) else ag p s
def Ny(p:Pl)(s:St)(good:Int)(n but:Int):Tk:=Tk.go (λb=>ar s b.toNat good.toNat) n (fa p but)
def Bl(p:Pl)(s:St)(order line n but:Int):Int:=if ew p s order line n but=0 then(Ny p s (fi s order line).o n but).left else 0
def zd(p:Pl)(s:St)(order line n but:Int)(x:St):Prop:=(ew p s order line n but=0->er s order.toNat line.toNat n (Ny p s (fi s order line).o n but) x)/\(¬ew p s order line n but=0->Dj x)
section
variable {p:Pl} {s:St} {order line n but:Int}
theorem Hg(h:¬ag p s=0):ew p s order line n but=ag p s:=by unfold ew;rw[if_neg h]
theorem zv(h:ag p s=0)(a:qe p s order line n but=true):ew p s order line n but=3:=by unfold ew;rw[if_pos h,if_pos a]
theorem D8(h:ag p s=0)(b:qe p s order line n but=false)(a:¬(s.os.z order.toNat).k=1):ew p s order line n but=6:=by unfold ew;rw[if_pos h,b,if_neg a];rfl
theorem D7(h:ag p s=0)(b:qe p s order line n but=false)(a:(s.os.z order.toNat).k=1)(c:(fi s order line).n<n):ew p s order line n but=3:=by unfold ew;rw[if_pos h,b,if_pos a,if_pos c];rfl
theorem Hf(h:ag p s=0)(b:qe p s order line n but=false)(a:(s.os.z order.toNat).k=1)(c:¬(fi s order line).n<n):ew p s order line n but=0:=by unfold ew;rw[if_pos h,b,if_pos a,if_neg c];rfl
theorem Hh(h:qe p s order line n but=false):(0<=order/\order.toNat<s.os.n)/\(0<=line/\line.toNat<(s.os.z order.toNat).ls.n)/\(0<=n/\n<=200)/\(but = -1\/0<=but/\but<p.nb):=by
 simp only[qe,xi,Xxq,Bool.not_eq_false',Bool.and_eq_false_iff,bne_eq_false_iff_eq] at h;obtain⟨⟨⟨a,b⟩,c⟩,d⟩:=h;have a:=aq a;have b:=aq b;have c:=aq c;refine⟨by omega,by omega,c,?_⟩;rcases d with d|d
 .exact Or.inl d
 have:=aq d;exact Or.inr (by omega)
structure ng(p:Pl)(s:St)(order line n but:Int):Prop where
 st:ag p s=0
 o0:0<=order
 on:order.toNat<s.os.n
 l0:0<=line
 ln:line.toNat<(s.os.z order.toNat).ls.n
 n0:0<=n
 n2:n<=200
 bt:but = -1\/0<=but/\but<p.nb
 kd:(s.os.z order.toNat).k=1
 bk:n<=(fi s order line).n
theorem allocIn(h:ew p s order line n but=0):ng p s order line n but:=by
 by_cases e:ag p s=0
 .cases f:qe p s order line n but
  .obtain⟨a,b,c,d⟩:=Hh f;by_cases g:(s.os.z order.toNat).k=1
   .by_cases i:(fi s order line).n<n
    .rw[D7 e f g i] at h;exact absurd h (by decide)
    exact⟨e,a.1,a.2,b.1,b.2,c.1,c.2,d,g,by omega⟩
   rw[D8 e f g] at h;exact absurd h (by decide)
  rw[zv e f] at h;exact absurd h (by decide)
 rw[Hg e] at h;exact absurd h e
theorem ng.good(h:ng p s order line n but):0<=(fi s order line).o/\(fi s order line).o<p.ns:=(dz ((ed h.st).fm.line _ h.on _ h.ln)).1
theorem ng.way(h:ng p s order line n but):∀x,x∈fa p but->0<=x/\x<p.nb:=λx hx=>Fa (wo.1 hx).1
theorem ng.tk(h:ng p s order line n but){l:List Int}(c:l.Pairwise (λx y=>¬x=y))(a:∀x,x∈l->0<=x/\x<p.nb):zu (λb=>ar s b.toNat (fi s order line).o.toNat) n l (Tk.go (λb=>ar s b.toNat (fi s order line).o.toNat) n l):=by
 have r:=ed h.st;have d:=h.good;refine abz h.n0 c (λx hx => ?_) (λx hx => ?_)
 .have:=a x hx;exact(km (r.goods _ (by omega))).2 _ (by omega)
 have:=a x hx;have:=r.fm.sh.pl.nb6;omega
theorem er.rightAt{x:St}{l:List Int}{t:Tk}(h:ng p s order line n but)(d:∀x,x∈l->0<=x/\x<p.nb)(k:zu (λb=>ar s b.toNat (fi s order line).o.toNat) n l t)(T:er s order.toNat line.toNat n t x):au p x:=by
 have r:=ed h.st;have c:=h.bk;have f:=k.left0;have g:=k.leftn;refine T.isRight r h.on h.ln h.kd (λb c => ?_) (by omega) (by unfold fi at c;omega) (λb c => ?_) k.took0 k.sum
 .apply Classical.byContradiction
  intro hc;refine c (k.other b λa=>hc ?_);exact d b a
 by_cases a:((b:Nat):Int)∈l
 .exact k.had b a
 rw[k.other b a];have e:=h.good;exact(km (r.goods _ (by unfold fi at e;omega))).2 b c
end
def Gn(x:Hd)(c:Nat)(v:Int):Hd:=if c=0 then ⟨v,x.l,x.b,x.n⟩ else if c=1 then ⟨x.o,v,x.b,x.n⟩ else if c=2 then ⟨x.o,x.l,v,x.n⟩ else ⟨x.o,x.l,x.b,v⟩
def yv(h:Hs)(j c:Nat)(v:Int):Hs:=⟨h.a,h.n,h.c,λi=>if i=j then Gn (h.z i) c v else h.z i⟩
def Cl(os:Os)(o l c:Nat)(v:Int):Os:=⟨os.a,os.n,os.c,λi=>if i=o then ⟨(os.z i).k,yv (os.z i).ls l c v⟩ else os.z i⟩
def setLine(s:St)(o l c:Nat)(v:Int):St:=⟨s.on,Cl s.os o l c v,s.hs,s.ms,s.si,s.so,s.sf⟩
def withHolds(s:St)(h:Hs):St:=⟨s.on,s.os,h,s.ms,s.si,s.so,s.sf⟩
theorem qc{n:Nat}{z:Nat->Hd}{i c:Nat}(hi:i<n)(hc:c<4):(ax n z).getD (i*4+c) default=(dg (z i)).getD c default:=by
 simp only[List.getD,vr n z i c hi hc]
theorem Mr{h:Hs}{j c:Nat}{v:Int}(hc:c<4)(q:Nat)(k:q<h.n*4):
  (if q=j*4+c then Value.int .i64 v else(ax h.n h.z).getD q default)=(ax h.n (yv h j c v).z).getD q default:=by
 have hd:q=q/4*4+q%4:=by omega
 have hi:q/4<h.n:=by omega
 have a:q%4<4:=by omega
 have e:=qc (z:=h.z) hi a;have g:=qc (z:=(yv h j c v).z) hi a;rw[<-hd] at e g;rw[e,g];show _=(dg (if q/4=j then Gn (h.z (q/4)) c v else h.z (q/4))).getD (q%4) default;by_cases f:q/4=j
 .rw[if_pos f];by_cases d:q=j*4+c
  .rw[if_pos d];have:q%4=c:=by omega
   rw[this];have b:c=0\/c=1\/c=2\/c=3:=by omega
   rcases b with rfl|rfl|rfl|rfl<;>rfl
  rw[if_neg d];have b:c=0\/c=1\/c=2\/c=3:=by omega
  have i:q%4=0\/q%4=1\/q%4=2\/q%4=3:=by omega
  rcases b with rfl|rfl|rfl|rfl<;>rcases i with a|a|a|a<;>first|(exfalso;omega)|(rw[a];rfl)
 rw[if_neg f,if_neg (by omega)]
theorem j7.setLine{A:Nat}{w:World}{s:Os}{o B:Nat}(h:j7 A w s)(y:o<s.n)(p:(s.z o).ls.a=some ⟨B,0,none⟩)(l c:Nat)(hc:c<4)(v:Int):j7 A (w.setCell ⟨B,l*4+c,none⟩ (.int .i64 v)) (Cl s o l c v):=by
 obtain⟨B',d,P,J,M,D⟩:=h.lines o y;rw[p] at d;simp only[Qkx,Qkz,and_true] at d;subst d;have u:∀i,(Cl s o l c v).z i=if i=o then ⟨(s.z i).k,yv (s.z i).ls l c v⟩ else s.z i:=λ_=>rfl;have f:∀i,py ((Cl s o l c v).z i)=py (s.z i):=λi=>by
  rw[u];by_cases b:i=o
  .rw[if_pos b];rfl
  rw[if_neg b]
 have r:∀i,((Cl s o l c v).z i).ls.a=(s.z i).ls.a:=λi=>by
  rw[u];by_cases b:i=o
  .rw[if_pos b];rfl
  rw[if_neg b]
 refine⟨h.le,h.cap,λQ => ?_,λi hi => ?_,λi j G E=>by rw[r,r];exact h.apart i j G E,h.room.set _ _ _⟩
 .obtain⟨g,a1,t,m⟩:=h.list Q;refine⟨g,a1,t,(m.other (a:=⟨B,l*4+c,none⟩) (Blk.ne2 m D (by decide)) _).congr λj E => ?_⟩;show _=(jh s.n (Cl s o l c v).z).getD j default;rw[ye λi _=>f i]
 rw[u];by_cases b:i=o
 .subst b;rw[if_pos rfl];exact⟨B,p,P,J,M,(D.set (l*4+c) (.int .i64 v)).congr λq K=>Mr hc q K⟩
 rw[if_neg b];obtain⟨C,a1,t,m,H,S⟩:=h.lines i hi;refine⟨C,a1,t,m,H,S.other (a:=⟨B,l*4+c,none⟩) (λe => ?_) _⟩;have L:C=B:=e;subst L;rcases Nat.lt_or_gt_of_ne b with x|F
 .exact h.apart i o x y (a1.trans p.symm)
 exact h.apart o i F hi (p.trans a1.symm)
theorem ai.setLine{A:Nat}{w:World}{s:St}{o B:Nat}(h:ai A w s)(f:o<s.os.n)(j:(s.os.z o).ls.a=some ⟨B,0,none⟩)(l c:Nat)(hc:c<4)(v:Int):ai A (w.setCell ⟨B,l*4+c,none⟩ (.int .i64 v)) (Go.Proofs.YtbcacebifpagpagGreat.setLine s o l c v):=by
 obtain⟨B',d,-,-,-,b⟩:=h.os.lines o f;rw[j] at d;simp only[Qkx,Qkz,and_true] at d;subst d;refine⟨?_,λi hi=>(h.rows i hi).other b (by decide) _ _,h.rapart,h.os.setLine f j l c hc v,h.hs.other b (by decide) _ _,h.ms.other b (by decide) _ _,h.msr.set _ _ _,h.si.other b (by decide) _ _,h.so.other b (by decide) _ _,h.sf.other b (by decide) _ _,h.aio,h.aif,h.aof,h.ari⟩;obtain⟨g,m,a1,p,k,e⟩:=h.on;exact⟨g,m,a1,p,k,e.other (a:=⟨B,l*4+c,none⟩) (Blk.ne2 e b (by decide)) _⟩
theorem ai.withHolds{A:Nat}{w:World}{s:St}{h:Hs}(k:ai A w s)(a:cy A 61 w h):ai A w (Go.Proofs.YtbcacebifpagpagGreat.withHolds s h):=
 ⟨k.on,k.rows,k.rapart,k.os,a,k.ms,k.msr,k.si,k.so,k.sf,k.aio,k.aif,k.aof,k.ari⟩
theorem ai.lineCell{A:Nat}{w:World}{s:St}{o l:Nat}(h:ai A w s)(f:o<s.os.n)(p:l<(s.os.z o).ls.n):∃g B,s.os.a=some ⟨g,0,none⟩/\A<=g/\g<w.heap.size/\w.cell? ⟨g,o*2+1,none⟩=some (.slice (some ⟨B,0,none⟩) (s.os.z o).ls.n (s.os.z o).ls.c)/\(s.os.z o).ls.a=some ⟨B,0,none⟩/\A<=B/\B<w.heap.size/\(s.os.z o).ls.n<=(s.os.z o).ls.c/\(s.os.z o).ls.c<=maxLen/\(∀j,w.frozen? ⟨B,j,none⟩=false) /\
  w.cell? ⟨B,l*4,none⟩=some (.int .i64 ((s.os.z o).ls.z l).o)/\w.cell? ⟨B,l*4+1,none⟩=some (.int .i64 ((s.os.z o).ls.z l).l)/\w.cell? ⟨B,l*4+2,none⟩=some (.int .i64 ((s.os.z o).ls.z l).b)/\w.cell? ⟨B,l*4+3,none⟩=some (.int .i64 ((s.os.z o).ls.z l).n):=by
 obtain⟨g,k,m,i⟩:=h.os.list (by omega);obtain⟨B,b1,b2,b3,b4,b5⟩:=h.os.lines o f;have e:=i.cell (j:=o*2+1) (by omega);rw[pa (z:=s.os.z) f (show 1<2 by decide)] at e;have c1:w.cell? ⟨g,o*2+1,none⟩=some (.slice (s.os.z o).ls.a (s.os.z o).ls.n (s.os.z o).ls.c):=e;rw[b1] at c1;have d:∀c,c<4->w.cell? ⟨B,l*4+c,none⟩=some ((dg ((s.os.z o).ls.z l)).getD c default):=λc hc=>by
  rw[<-qc (z:=(s.os.z o).ls.z) p hc];exact b5.cell (by omega)
 exact⟨g,B,k,m,i.lt,c1,b1,b2,b5.lt,b3,b4,λj=>b5.frozen j,d 0 (by decide),d 1 (by decide),d 2 (by decide),d 3 (by decide)⟩
theorem ou{s:St}{o l c:Nat}{v:Int}(i j:Nat):((Go.Proofs.YtbcacebifpagpagGreat.setLine s o l c v).os.z i).ls.z j=if i=o/\j=l then Gn ((s.os.z i).ls.z j) c v else(s.os.z i).ls.z j:=by
 show(if i=o then(⟨(s.os.z i).k,yv (s.os.z i).ls l c v⟩:Od) else s.os.z i).ls.z j=_;by_cases hi:i=o
 .rw[if_pos hi];show(if j=l then Gn ((s.os.z i).ls.z j) c v else(s.os.z i).ls.z j)=_;by_cases a:j=l
  .rw[if_pos a,if_pos ⟨hi,a⟩]
  rw[if_neg a,if_neg (λe=>a e.2)]
 rw[if_neg hi,if_neg (λe=>hi e.1)]
theorem rb{s:St}{o l c:Nat}{v:Int}(i:Nat):((Go.Proofs.YtbcacebifpagpagGreat.setLine s o l c v).os.z i).k=(s.os.z i).k:=by
 show(if i=o then(⟨(s.os.z i).k,yv (s.os.z i).ls l c v⟩:Od) else s.os.z i).k=_;by_cases hi:i=o
 .rw[if_pos hi]
 rw[if_neg hi]
theorem dm{s:St}{o l c:Nat}{v:Int}(i:Nat):((Go.Proofs.YtbcacebifpagpagGreat.setLine s o l c v).os.z i).ls.n=(s.os.z i).ls.n/\((Go.Proofs.YtbcacebifpagpagGreat.setLine s o l c v).os.z i).ls.a=(s.os.z i).ls.a/\((Go.Proofs.YtbcacebifpagpagGreat.setLine s o l c v).os.z i).ls.c=(s.os.z i).ls.c:=by
 show(if i=o then(⟨(s.os.z i).k,yv (s.os.z i).ls l c v⟩:Od) else s.os.z i).ls.n=_/\(if i=o then(⟨(s.os.z i).k,yv (s.os.z i).ls l c v⟩:Od) else s.os.z i).ls.a=_/\(if i=o then(⟨(s.os.z i).k,yv (s.os.z i).ls l c v⟩:Od) else s.os.z i).ls.c=_;by_cases hi:i=o
 .rw[if_pos hi];exact⟨rfl,rfl,rfl⟩
 rw[if_neg hi];exact⟨rfl,rfl,rfl⟩
theorem Gu{z:Nat->Int}{m:Nat}:∀{k:Nat},m<k->(∀i,i<k->0<=z i)->z m<=cu z k
 | k+1,hm,h=>by
  simp only[cu];have b:0<=cu z k:=by
   have:∀q,q<=k->0<=cu z q:=λq=>by
    induction q with
    | zero=>intro _;exact Int.le_refl _
    | succ q ih=>intro c;simp only[cu];have:=ih (by omega);have:=h q (by omega);omega
   exact this k nlr
  by_cases a:m=k
  .subst a;omega
  have:=Gu (z:=z) (m:=m) (k:=k) (by omega) (λi hi=>h i (by omega));have:=h k (by omega);omega
theorem Nm{n:Nat}{z:Nat->Hd}(a:aw n (cz z)=false)(o l:Int){b:Nat}(c:b<6):keptV n z o l b<=keptS z o l n:=by
 rw[<-xf z o l n a];exact Gu (z:=λb=>keptV n z o l b) c λi _=>(C7 (λj d=>(cx (ca a j d)).2.2.2) o l i).1
theorem Ki{p:Pl}{x:St}(r:au p x){i j:Nat}(hi:i<x.os.n)(c:j<(x.os.z i).ls.n)(d:(x.os.z i).k=1):((x.os.z i).ls.z j).b+((x.os.z i).ls.z j).n+keptS x.hs.z i j x.hs.n=((x.os.z i).ls.z j).l/\((x.os.z i).ls.z j).l<=200/\0<=((x.os.z i).ls.z j).b:=by
 have w:=r.orders i hi;unfold cf at w;rw[Xxq] at w;have a:=di w.2 j c;rw[d] at a;unfold co at a;rw[if_neg (by decide),if_neg (by decide)] at a;simp only[Bool.not_eq_false',beq_iff_eq] at a;have b:=dz (r.fm.line i hi j c);exact⟨a,by omega,by omega⟩
theorem er.congr{s x:St}{o l:Nat}{n:Int}{t d:Tk}(h:er s o l n t x)(e:d.left=t.left)(g:∀c,d.took c=t.took c):er s o l n d x :=
 ⟨h.on,⟨h.os.1,λi hi=>⟨(h.os.2 i hi).1,(h.os.2 i hi).2.1,λj f=>by rw[e];exact(h.os.2 i hi).2.2 j f⟩⟩,h.right,λa b c=>by rw[g];exact h.kept a b c,h.ms,h.si,h.so,h.sf⟩
theorem er.stepZero{s x:St}{o l:Nat}{n:Int}{t:Tk}{av:Int->Int}{b:Int}(h:er s o l n t x)(a:min t.left (av b)=0):er s o l n (t.step av b) x :=
 h.congr (by show t.left-min t.left (av b)=t.left;omega) λc=>by
  show(t.took c+if c=b then min t.left (av b) else 0)=t.took c;rw[a]
  split<;>omega
def kg(o l:Nat)(b m:Int):Hd:=⟨o,l,b,m⟩
theorem er.start{s:St}{o l:Nat}{n:Int}(f:aw s.hs.n (cz s.hs.z)=false){x:St}(hx:ae x s):er s o l n ⟨n,λ_=>0⟩ x:=by
 refine⟨hx.on,⟨hx.os.1,λi hi=>⟨(hx.os.2 i hi).1,(hx.os.2 i hi).2.1,λj d => ?_⟩⟩,?_,λa b c => ?_,hx.ms,hx.si,hx.so,hx.sf⟩
 .rw[(hx.os.2 i hi).2.2 j d];by_cases e:i=o/\j=l
  .rw[if_pos e];show _=(⟨_,_,_,_-(n-n)⟩:Hd);rw[Int.sub_self,Int.sub_zero]
  rw[if_neg e]
 .rw[hx.hs.1,Fi λj d=>hx.hs.2 j (by rw[hx.hs.1];exact d)];exact f
 rw[hx.hs.1,yf λj d=>hx.hs.2 j (by rw[hx.hs.1];exact d)];show _=_+if _ then(0:Int) else 0
 split<;>omega
section
variable {p:Pl} {s x:St} {order line n but:Int} {l:List Int} {t:Tk} {b:Int}
theorem er.addE(h:ng p s order line n but)(i:∀x,x∈l->0<=x/\x<p.nb)(k:zu (λb=>ar s b.toNat (fi s order line).o.toNat) n l t)(T:er s order.toNat line.toNat n t x)(g:0<=b/\b<p.nb){m:Int}(v:0<m)(y:m<=t.left):
  Go.Proofs.YtbcacebifpagpagGreat.addE x.hs.n x.hs.z (kg order.toNat line.toNat b m)=0:=by
 have r:=T.rightAt h i k;have nb6:=r.fm.sh.pl.nb6;have a:order.toNat<x.os.n:=by rw[T.os.1];exact h.on
 have e:=T.os.2 order.toNat a;have f:line.toNat<(x.os.z order.toNat).ls.n:=by rw[e.2.1];exact h.ln
 obtain⟨a1,H,F⟩:=Ki r a f (by rw[e.1];exact h.kd);have d:=e.2.2 line.toNat f;rw[if_pos ⟨rfl,rfl⟩] at d;have G:((x.os.z order.toNat).ls.z line.toNat).n=(fi s order line).n-(n-t.left):=by rw[d];rfl
 have w:=h.bk;have D:=k.leftn;obtain⟨c,rfl⟩:=Qzz g.1;have B:=Nm T.right order.toNat line.toNat (b:=c) (by omega);have os4:=r.fm.os4;have E:=(r.fm.lns _ a).2;have q:gx (kg order.toNat line.toNat c m)=true:=by
  unfold gx kg;have A:=(ro (z:=x.hs.z) (order.toNat:Nat) (line.toNat:Nat) x.hs.n λj u=>(cx (ca T.right j u)).2.2.2).1;rw[bq (by dsimp only;omega),bq (by dsimp only;omega),bq (by dsimp only;omega),bq (by dsimp only;omega)]
  rfl
 rw[S4 T.right q,if_neg];show ¬200<keptV x.hs.n x.hs.z (order.toNat:Nat) (line.toNat:Nat) c+m;omega
theorem er.stepAdd{y:Hs}{av:Int->Int}(T:er s order.toNat line.toNat n t x)(F:order.toNat<s.os.n)(G:line.toNat<(s.os.z order.toNat).ls.n){m:Int}(q:min t.left (av b)=m)(w:Go.Proofs.YtbcacebifpagpagGreat.addE x.hs.n x.hs.z (kg order.toNat line.toNat b m)=0)(B:Dh x.hs.n x.hs.z (kg order.toNat line.toNat b m) y):
  er s order.toNat line.toNat n (t.step av b) (withHolds (setLine x order.toNat line.toNat 3 (((x.os.z order.toNat).ls.z line.toNat).n-m)) y):=by
 obtain⟨A,E⟩:=B.right w;refine⟨T.on,⟨T.os.1,λi hi => ?_⟩,A,λa c d => ?_,T.ms,T.si,T.so,T.sf⟩
 .have r:i<x.os.n:=hi;have e:=T.os.2 i r;have u:=(dm (s:=x) (o:=order.toNat) (l:=line.toNat) (c:=3) (v:=((x.os.z order.toNat).ls.z line.toNat).n-m) i).1;refine⟨(rb i).trans e.1,u.trans e.2.1,λj D => ?_⟩;have h:j<(x.os.z i).ls.n:=by rw[<-u];exact D
  show((setLine x order.toNat line.toNat 3 (((x.os.z order.toNat).ls.z line.toNat).n-m)).os.z i).ls.z j=_;rw[ou,e.2.2 j h];by_cases f:i=order.toNat/\j=line.toNat
  .rw[if_pos f,if_pos f,if_pos f];obtain⟨rfl,rfl⟩:=f;have p:=e.2.2 line.toNat h;rw[if_pos ⟨rfl,rfl⟩] at p;rw[p];show(⟨_,_,_,_-(n-t.left)-m⟩:Hd)=⟨_,_,_,_-(n-(t.left-min t.left (av b)))⟩;rw[q]
   congr 1
   omega
  rw[if_neg f,if_neg f,if_neg f]
 show keptV y.n y.z a c d=_;rw[E,T.kept];show _=_+if _ then t.took d+(if d=b then min t.left (av b) else 0) else 0;rw[q];by_cases g:a=order.toNat/\c=line.toNat
 .rw[if_pos g,if_pos g];by_cases hd:d=b
  .have:be (kg order.toNat line.toNat b m) a c d=true:=by
    unfold be kg;simp[g,hd]
   rw[this,if_pos hd,if_pos rfl];show _+m=_;omega
  have:be (kg order.toNat line.toNat b m) a c d=false:=by
   cases k:be (kg order.toNat line.toNat b m) a c d
   .rfl
   exact absurd (fh k).2.2.symm hd
  rw[this,if_neg hd];simp
 have:be (kg order.toNat line.toNat b m) a c d=false:=by
  cases k:be (kg order.toNat line.toNat b m) a c d
  .rfl
  have:=fh k;exact absurd ⟨this.1.symm,this.2.1.symm⟩ g
 rw[this,if_neg g,if_neg g];simp
end
structure ix(p:Pl)(s:St)(o l:Nat)(n:Int):Prop where
 fm:cv p s
 av:∀b,b<p.nb->0<=ar s b ((s.os.z o).ls.z l).o.toNat
 on:o<s.os.n
 ln:l<(s.os.z o).ls.n
 n0:0<=n
 bk:n<=((s.os.z o).ls.z l).n
 sum:((s.os.z o).ls.z l).n+keptS s.hs.z o l s.hs.n<=200
def avT(s:St)(o l:Nat)(b:Int):Int:=ar s b.toNat ((s.os.z o).ls.z l).o.toNat
section
variable {p:Pl} {s x:St} {o l:Nat} {n:Int} {L:List Int} {t:Tk}
theorem ix.good(h:ix p s o l n):0<=((s.os.z o).ls.z l).o/\((s.os.z o).ls.z l).o<p.ns:=(dz (h.fm.line _ h.on _ h.ln)).1
theorem ix.tk(h:ix p s o l n)(b:L.Pairwise (λx y=>¬x=y))(a:∀x,x∈L->0<=x/\x<p.nb):zu (avT s o l) n L (Tk.go (avT s o l) n L):=by
 refine abz h.n0 b (λx hx => ?_) (λx hx => ?_)
 .have:=a x hx;exact h.av _ (by omega)
 have:=a x hx;have:=h.fm.sh.pl.nb6;omega
theorem ix.inBins(d:∀x,x∈L->0<=x/\x<p.nb)(k:zu (avT s o l) n L t):∀b,¬t.took b=0->0<=b/\b<p.nb:=λb c=>by
 apply Classical.byContradiction
 intro hc;exact c (k.other b λa=>hc (d b a))
theorem ix.formed(h:ix p s o l n)(a:∀x,x∈L->0<=x/\x<p.nb)(k:zu (avT s o l) n L t)(T:er s o l n t x):cv p x:=by
 have c:=k.left0;have b:=k.leftn;have d:=h.bk;exact T.formed h.fm h.on h.ln (ix.inBins a k) (by omega) (by omega)
theorem ix.availAt(h:ix p s o l n)(d:∀x,x∈L->0<=x/\x<p.nb)(k:zu (avT s o l) n L t)(T:er s o l n t x){b:Nat}(c:b<p.nb)(a:((b:Nat):Int) ∉ L):ar x b ((s.os.z o).ls.z l).o.toNat=avT s o l b:=by
 have e:=h.good;rw[T.avail h.fm (h.formed d k T) h.on h.ln c (by omega),k.other b a];unfold avT;rw[show((b:Nat):Int).toNat=b from rfl]
 split<;>omega
theorem ix.addE(h:ix p s o l n)(f:∀x,x∈L->0<=x/\x<p.nb)(k:zu (avT s o l) n L t)(T:er s o l n t x){b:Int}(d:0<=b/\b<p.nb){m:Int}(i:0<m)(r:m<=t.left):
  gx (kg o l b m)=true/\keptV x.hs.n x.hs.z o l b+m<=200/\Go.Proofs.YtbcacebifpagpagGreat.addE x.hs.n x.hs.z (kg o l b m)=0:=by
 have fx:=h.formed f k T;have nb6:=fx.sh.pl.nb6;have os4:=h.fm.os4;have w:=(h.fm.lns _ h.on).2;have A:=h.on;have B:=h.ln;have e:=T.keptS h.fm k.sum o l;rw[if_pos ⟨rfl,rfl⟩] at e;have hs:=h.sum;have q:=h.bk;have y:=k.leftn;obtain⟨a,rfl⟩:=Qzz d.1;have v:=Nm T.right o l (b:=a) (by omega);have u:=(ro (z:=s.hs.z) o l s.hs.n λj g=>(cx (ca h.fm.hold j g)).2.2.2).1;have c:gx (kg o l a m)=true:=by
  unfold gx kg;rw[bq (by dsimp only;omega),bq (by dsimp only;omega),bq (by dsimp only;omega),bq (by dsimp only;omega)]
  rfl
 refine⟨c,by omega,?_⟩;rw[S4 T.right c,if_neg];show ¬200<keptV x.hs.n x.hs.z o l a+m;omega
end
theorem Tk.go_congr{av a:Int->Int}{n:Int}:∀{L:List Int} {t:Tk},(∀b,b∈L->av b=a b)->L.foldl (Tk.step av) t=L.foldl (Tk.step a) t
 | [],_,_=>rfl
 | b :: L,t,h=>by
  rw[List.foldl_cons,List.foldl_cons,show Tk.step av t b=Tk.step a t b by unfold Tk.step;rw[h b (by simp)]];exact Tk.go_congr (n:=n) λc hc=>h c (by simp[hc])
theorem ix.same{p:Pl}{x s:St}{o l:Nat}{n:Int}(h:ix p s o l n)(k:ae x s):ix p x o l n:=by
 have c:o<x.os.n:=by rw[k.os.1];exact h.on
 have e:=k.os.2 o c;have f:l<(x.os.z o).ls.n:=by rw[e.2.1];exact h.ln
 have a:=e.2.2 l f;have i:=h.good;refine⟨k.formed h.fm,λb d => ?_,c,f,h.n0,by rw[a];exact h.bk,?_⟩
 .rw[a,k.avail h.fm d (by omega)];exact h.av b d
 rw[a,k.hs.1,Be _ _ λj g=>k.hs.2 j (by rw[k.hs.1];exact g)];exact h.sum
theorem er.base{e s x:St}{o l:Nat}{n:Int}{t:Tk}(k:ae e s)(h:er e o l n t x):er s o l n t x:=by
 have r:=k;refine⟨⟨h.on.1.trans k.on.1,λi hi => ?_⟩,⟨h.os.1.trans k.os.1,λi hi => ?_⟩,h.right,λa b c => ?_,⟨h.ms.1.trans k.ms.1,λj d=>(h.ms.2 j d).trans (k.ms.2 j (by rw[<-h.ms.1];exact d))⟩,⟨h.si.1.trans k.si.1,λj d=>(h.si.2 j d).trans (k.si.2 j (by rw[<-h.si.1];exact d))⟩,⟨h.so.1.trans k.so.1,λj d=>(h.so.2 j d).trans (k.so.2 j (by rw[<-h.so.1];exact d))⟩,⟨h.sf.1.trans k.sf.1,λj d=>(h.sf.2 j d).trans (k.sf.2 j (by rw[<-h.sf.1];exact d))⟩⟩
 .have a:=h.on.2 i hi;have b:=k.on.2 i (by rw[<-h.on.1];exact hi);exact⟨a.1.trans b.1,λj d=>(a.2 j d).trans (b.2 j (by rw[<-a.1];exact d))⟩
 .have a:=h.os.2 i hi;have b:=k.os.2 i (by rw[<-h.os.1];exact hi);refine⟨a.1.trans b.1,a.2.1.trans b.2.1,λj d => ?_⟩;rw[a.2.2 j d,b.2.2 j (by rw[<-a.2.1];exact d)]
 rw[h.kept,k.hs.1,yf λj d=>k.hs.2 j (by rw[k.hs.1];exact d)]
theorem aaz{p:Pl}{x s:St}{o l:Nat}{n but:Int}(h:ix p s o l n)(k:ae x s):Tk.go (avT x o l) n (fa p but)=Tk.go (avT s o l) n (fa p but):=by
 unfold Tk.go;refine Tk.go_congr (n:=n) λb d => ?_;have c:o<x.os.n:=by rw[k.os.1];exact h.on
 have e:=k.os.2 o c;have a:l<(x.os.z o).ls.n:=by rw[e.2.1];exact h.ln
 have g:=h.good;have f:=Fa (wo.1 d).1;unfold avT;rw[e.2.2 l a];exact k.avail h.fm (by omega) (by omega)
theorem U8{p:Pl}{s:St}{bin good n:Int}(h:gt p s bin good n=0):ag p s=0:=by
 apply Classical.byContradiction
 intro a;rw[El a] at h;exact a h
theorem F8{s t:St}(a:Dj s)(b:Dj t):ae s t:=by
 obtain⟨a1,k,h,e,g,f,d⟩:=a;obtain⟨b1,b2,b3,b4,b5,b6,b7⟩:=b;exact⟨⟨by omega,λi hi=>absurd hi (by omega)⟩,⟨by omega,λi hi=>absurd hi (by omega)⟩,⟨by omega,λj c=>absurd c (by omega)⟩,⟨by omega,λj c=>absurd c (by omega)⟩,⟨by omega,λj c=>absurd c (by omega)⟩,⟨by omega,λj c=>absurd c (by omega)⟩,⟨by omega,λj c=>absurd c (by omega)⟩⟩
theorem du.same{E:Int}{t x y:St}(a:du E t x)(b:du E t y):ae x y:=by
 by_cases h:E=0
 .exact(a.1 h).trans (b.1 h).symm
 exact F8 (a.2 h) (b.2 h)
theorem du.bound{E:Int}{p:Pl}{s t x:St}(h:du E t x)(f:E=0->t.os.n<=1000/\t.ms.n<=1000/\∀i,i<t.os.n->(t.os.z i).ls.n<=1000):x.os.n<=1000/\x.ms.n<=1000/\∀i,i<x.os.n->(x.os.z i).ls.n<=1000:=by
 by_cases b:E=0
 .obtain⟨u,o,c⟩:=f b;have a:=h.1 b;have d:x.os.n=t.os.n:=a.os.1;have q:x.ms.n=t.ms.n:=a.ms.1;refine⟨by omega,by omega,λi hi => ?_⟩;have j:(x.os.z i).ls.n=(t.os.z i).ls.n:=(a.os.2 i hi).2.1;have:=c i (by omega);omega
 obtain⟨a1,r,m,g,l,k,e⟩:=h.2 b;exact⟨by omega,by omega,λi hi=>absurd hi (by omega)⟩
theorem zd.same{p:Pl}{s x y:St}{order line n but:Int}(a:zd p s order line n but x)(b:zd p s order line n but y):ae x y:=by
 by_cases h:ew p s order line n but=0
 .exact(a.1 h).same (b.1 h)
 exact F8 (a.2 h) (b.2 h)
theorem zd.bound{p:Pl}{s x:St}{order line n but:Int}(a:zd p s order line n but x):x.os.n<=1000/\x.ms.n<=1000/\∀i,i<x.os.n->(x.os.z i).ls.n<=1000:=by
 by_cases h:ew p s order line n but=0
 .have f:=(ed (allocIn h).st).fm;have T:=a.1 h;have g:=f.os4;have o:=f.ms8;have b:=T.os.1;have l:=T.ms.1;refine⟨by omega,by omega,λi hi => ?_⟩;rw[(T.os.2 i hi).2.1];have:=f.lns i (by omega);omega
 obtain⟨a1,m,k,d,j,e,c⟩:=a.2 h;exact⟨by omega,by omega,λi hi=>absurd hi (by omega)⟩
theorem Nj{p:Pl}{f:Bool}{b:Nat}:∀{k:Nat},b<k->(p.zb b).front=f->((b:Nat):Int)∈frL p f k
 | k+1,hb,hf=>by
  by_cases c:b=k
  .subst c;rw[ut hf];simp
  have h:=Nj (k:=k) (by omega) hf;by_cases a:(p.zb k).front=f
  .rw[ut a];simp[h]
  rw[vt a];exact h
theorem Tj{p:Pl}{b:Nat}(a:b<p.nb):((b:Nat):Int)∈fu p:=by
 unfold fu;rw[List.mem_append];cases c:(p.zb b).front
 .exact Or.inr (Nj a c)
 exact Or.inl (Nj a c)
theorem er.trans{s y z:St}{o l:Nat}{k m:Int}{r p:Tk}(a:er s o l k r y)(b:er y o l m p z):er s o l (k+m) ⟨r.left+p.left,λc=>r.took c+p.took c⟩ z:=by
 refine⟨⟨b.on.1.trans a.on.1,λi hi => ?_⟩,⟨b.os.1.trans a.os.1,λi hi => ?_⟩,b.right,λe f g => ?_,⟨b.ms.1.trans a.ms.1,λj d=>(b.ms.2 j d).trans (a.ms.2 j (by rw[<-b.ms.1];exact d))⟩,⟨b.si.1.trans a.si.1,λj d=>(b.si.2 j d).trans (a.si.2 j (by rw[<-b.si.1];exact d))⟩,⟨b.so.1.trans a.so.1,λj d=>(b.so.2 j d).trans (a.so.2 j (by rw[<-b.so.1];exact d))⟩,⟨b.sf.1.trans a.sf.1,λj d=>(b.sf.2 j d).trans (a.sf.2 j (by rw[<-b.sf.1];exact d))⟩⟩
 .have x:=b.on.2 i hi;have q:=a.on.2 i (by rw[<-b.on.1];exact hi);exact⟨x.1.trans q.1,λj d=>(x.2 j d).trans (q.2 j (by rw[<-x.1];exact d))⟩
 .have x:=b.os.2 i hi;have q:=a.os.2 i (by rw[<-b.os.1];exact hi);refine⟨x.1.trans q.1,x.2.1.trans q.2.1,λj d => ?_⟩;rw[x.2.2 j d,q.2.2 j (by rw[<-x.2.1];exact d)];by_cases n:i=o/\j=l
  .rw[if_pos n,if_pos n,if_pos n];unfold iz
   congr 1
   show _-(k-r.left)-(m-p.left)=_-(k+m-(r.left+p.left));omega
  rw[if_neg n,if_neg n,if_neg n]
 rw[b.kept,a.kept];show _=_+if _ then r.took g+p.took g else 0;by_cases h:e=o/\f=l
 .rw[if_pos h,if_pos h,if_pos h];omega
 rw[if_neg h,if_neg h,if_neg h];omega
section
variable {p:Pl} {s x y z:St} {order line n but k:Int}
theorem ng.less(h:ng p s order line n but)(b:0<=k/\k<=n):ew p s order line k but=0:=by
 have a:qe p s order line k but=false:=by
  unfold qe xi;have c:=h.n2;have on:=h.on;have o0:=h.o0;have ln:=h.ln;have l0:=h.l0;rw[bq (by omega),bq (by omega),bq (by omega)];rcases h.bt with e|e
  .rw[e];rfl
  rw[bq (by omega)];simp
 exact Hf h.st a h.kd (by have:=h.bk;omega)
theorem ng.rightX(h:ng p s order line n but)(hx:zd p s order line n but x):au p x :=
 (hx.1 (h.less ⟨h.n0,Int.le_refl _⟩)).rightAt h (λx hx=>h.way x hx) (h.tk (uj p but) (λx hx=>h.way x hx))
theorem ng.none(h:ng p s order line n but)(hx:zd p s order line n but x)(c:0<Bl p s order line n but){b:Nat}(f:b<p.nb)(a:¬((b:Nat):Int)=but):ar x b (fi s order line).o.toNat=0:=by
 have e:=h.less ⟨h.n0,Int.le_refl _⟩;have T:=hx.1 e;have r:=h.rightX hx;have k:=h.tk (uj p but) (λx hx=>h.way x hx);unfold Bl at c;rw[if_pos e] at c;have j:=h.good;have g:((b:Nat):Int)∈fa p but:=wo.2 ⟨Tj f,a⟩;have i:=k.all c b g;rw[T.avail (ed h.st).fm r.fm h.on h.ln f (by omega),if_pos (by unfold fi;unfold fi at j;omega)];show _-(Ny p s (fi s order line).o n but).took b=0;have d:(Ny p s (fi s order line).o n but).took b=ar s b (fi s order line).o.toNat:=i;rw[d];omega
end
theorem ae.self(s:St):ae s s:=⟨⟨rfl,λ_ _=>⟨rfl,λ_ _=>rfl⟩⟩,⟨rfl,λ_ _=>⟨rfl,rfl,λ_ _=>rfl⟩⟩,⟨rfl,λ_ _=>rfl⟩,⟨rfl,λ_ _=>rfl⟩,⟨rfl,λ_ _=>rfl⟩,⟨rfl,λ_ _=>rfl⟩,⟨rfl,λ_ _=>rfl⟩⟩
theorem Ad{p:Pl}{s:St}(r:au p s){o l:Nat}(b:o<s.os.n)(d:l<(s.os.z o).ls.n):0<=((s.os.z o).ls.z l).n/\((s.os.z o).ls.z l).n+keptS s.hs.z o l s.hs.n<=200/\0<=keptS s.hs.z o l s.hs.n:=by
 have w:=r.orders o b;unfold cf at w;rw[Xxq] at w;have a:co (s.os.z o).k ((s.os.z o).ls.z l) (keptS s.hs.z o l s.hs.n)=false:=di w.2 l d;obtain⟨b1,b2,b3,b4⟩:=dz (r.fm.line o b l d);have g:=(ro (z:=s.hs.z) o l s.hs.n λj f=>(cx (ca r.fm.hold j f)).2.2.2).1;unfold co at a;by_cases e:(s.os.z o).k=0
 .rw[if_pos e] at a;simp only[Xxq,Bool.not_eq_false',beq_iff_eq] at a;omega
 rw[if_neg e] at a;by_cases c:(s.os.z o).k=2
 .rw[if_pos c] at a;simp only[Xxq,Bool.not_eq_false',beq_iff_eq] at a;omega
 rw[if_neg c] at a;simp only[Bool.not_eq_false',beq_iff_eq] at a;omega
theorem au.takeIn{p:Pl}{s:St}(r:au p s){o l:Nat}(c:o<s.os.n)(a:l<(s.os.z o).ls.n){n:Int}(e:0<=n)(d:n<=((s.os.z o).ls.z l).n):ix p s o l n:=by
 have q:=Ad r c a;have f:=(dz (r.fm.line o c l a)).1;exact⟨r.fm,λb d=>(km (r.goods _ (by omega))).2 b d,c,a,e,d,q.2.1⟩
def lg(p:Pl)(but:Int)(y:St)(i j:Nat)(n:Int)(x:St):Prop:=er y i j n (Tk.go (avT y i j) n (fa p but)) x
structure j5(p:Pl)(but:Int)(y:St)(i j:Nat)(n:Int):Prop where
 r:au p y
 on:i<y.os.n
 ln:j<(y.os.z i).ls.n
 n0:0<=n
 kd:n=0\/(y.os.z i).k=1/\n<=((y.os.z i).ls.z j).n
 bt:but = -1\/0<=but/\but<p.nb
section
variable {p:Pl} {but:Int} {s y x:St} {i j:Nat} {n:Int}
theorem j5.bk(h:j5 p but y i j n):n<=((y.os.z i).ls.z j).n:=by
 have q:=Ad h.r h.on h.ln;rcases h.kd with e|e
 .omega
 exact e.2
theorem j5.tki(h:j5 p but y i j n):ix p y i j n:=h.r.takeIn h.on h.ln h.n0 h.bk
theorem j5.way(x:Int)(hx:x∈fa p but):0<=x/\x<p.nb:=Fa (wo.1 hx).1
theorem j5.tk(h:j5 p but y i j n):zu (avT y i j) n (fa p but) (Tk.go (avT y i j) n (fa p but)):=h.tki.tk (uj p but) j5.way
theorem ix.tkw{but:Int}(h:ix p y i j n):zu (avT y i j) n (fa p but) (Tk.go (avT y i j) n (fa p but)):=h.tk (uj p but) j5.way
theorem ix.none{but:Int}(h:ix p y i j 0):(Tk.go (avT y i j) 0 (fa p but)).left=0/\∀c,(Tk.go (avT y i j) 0 (fa p but)).took c=0:=by
 have k:=h.tkw (but:=but);have d:=k.left0;have b:=k.leftn;refine⟨by omega,λc => ?_⟩;have e:=k.took0 c;have a:=k.tookn c;omega
theorem lg.zero(h:ix p y i j 0)(T:lg p but y i j 0 x):ae x y:=er.same T (er.congr (er.start (n:=0) h.fm.hold (ae.self y)) h.none.1 h.none.2)
theorem lg.skip(h:ix p y i j 0):lg p but y i j 0 y:=er.congr (er.start (n:=0) h.fm.hold (ae.self y)) h.none.1 h.none.2
theorem j5.allocIn(h:j5 p but y i j n)(a:(y.os.z i).k=1):ng p y i j n but:=by
 have q:=Ad h.r h.on h.ln;have b:=h.bk;have o:=h.on;have l:=h.ln;exact⟨j9 h.r,by omega,o,by omega,l,h.n0,by omega,h.bt,a,b⟩
theorem lg.right(h:j5 p but y i j n)(T:lg p but y i j n x):au p x:=by
 rcases h.kd with e|e
 .subst e;exact(lg.zero h.tki T).right h.r
 have I:=h.allocIn e.1;exact er.rightAt (order:=i) (line:=j) I (λx hx=>I.way x hx) (I.tk (uj p but) (λx hx=>I.way x hx)) T
theorem lg.same{c b:St}(h:ix p y i j n)(e:ae c y)(T:lg p but y i j n x)(a:lg p but c i j n b):ae b x:=by
 unfold lg at a;rw[aaz h e] at a;exact(er.base e a).same T
structure Fe(p:Pl)(but:Int)(s x:St):Prop where
 r:au p x
 osn:x.os.n=s.os.n
 kind:∀i,i<s.os.n->(x.os.z i).k=(s.os.z i).k/\(x.os.z i).ls.n=(s.os.z i).ls.n
 line:∀i,i<s.os.n->∀j,j<(s.os.z i).ls.n->((x.os.z i).ls.z j).o=((s.os.z i).ls.z j).o/\((x.os.z i).ls.z j).l=((s.os.z i).ls.z j).l/\((x.os.z i).ls.z j).b=((s.os.z i).ls.z j).b
 sum:∀i,i<s.os.n->∀j,j<(s.os.z i).ls.n->((x.os.z i).ls.z j).n+keptS x.hs.z i j x.hs.n=((s.os.z i).ls.z j).n+keptS s.hs.z i j s.hs.n/\((x.os.z i).ls.z j).n<=((s.os.z i).ls.z j).n
 on:x.on.n=s.on.n/\∀i,i<x.on.n->(x.on.r i).n=(s.on.r i).n/\∀j,j<(x.on.r i).n->(x.on.r i).z j=(s.on.r i).z j
 ms:x.ms.n=s.ms.n/\∀j,j<x.ms.n->x.ms.z j=s.ms.z j
 si:x.si.n=s.si.n/\∀j,j<x.si.n->x.si.z j=s.si.z j
 so:x.so.n=s.so.n/\∀j,j<x.so.n->x.so.z j=s.so.z j
 sf:x.sf.n=s.sf.n/\∀j,j<x.sf.n->x.sf.z j=s.sf.z j
 av:∀b g,b<p.nb->g<p.ns->ar x b g<=ar s b g/\(((b:Nat):Int)=but->ar x b g=ar s b g)
theorem ae.kept(h:ae x s)(a b:Int):keptS x.hs.z a b x.hs.n=keptS s.hs.z a b s.hs.n:=by
 rw[h.hs.1,Be _ _ λj c=>h.hs.2 j (by rw[h.hs.1];exact c)]
theorem ae.line(h:ae x s){i j:Nat}(hi:i<s.os.n)(a:j<(s.os.z i).ls.n):(x.os.z i).ls.z j=(s.os.z i).ls.z j:=by
 have e:=h.os.2 i (by rw[h.os.1];exact hi);exact e.2.2 j (by rw[e.2.1];exact a)
theorem Fe.self(r:au p s)(h:ae x s):Fe p but s x:=by
 refine⟨h.right r,h.os.1,λi hi => ?_,λi hi j a => ?_,λi hi j a => ?_,h.on,h.ms,h.si,h.so,h.sf,λb g c d => ?_⟩
 .have e:=h.os.2 i (by rw[h.os.1];exact hi);exact⟨e.1,e.2.1⟩
 .rw[h.line hi a];exact⟨rfl,rfl,rfl⟩
 .rw[h.line hi a,h.kept];exact⟨rfl,Int.le_refl _⟩
 rw[h.avail r.fm c d];exact⟨Int.le_refl _,λ_=>rfl⟩
theorem Fe.step(A:Fe p but s y)(h:j5 p but y i j n)(T:lg p but y i j n x):Fe p but s x:=by
 have k:=h.tk;have q:=lg.right h T;have d:er y i j n (Tk.go (avT y i j) n (fa p but)) x:=T
 generalize Tk.go (avT y i j) n (fa p but)=t at k d
 have E:=k.left0;have D:=k.leftn;refine⟨q,d.os.1.trans A.osn,λa l => ?_,λa l b m => ?_,λa l b m => ?_,⟨d.on.1.trans A.on.1,λa l => ?_⟩,⟨d.ms.1.trans A.ms.1,λc hc=>(d.ms.2 c hc).trans (A.ms.2 c (by rw[<-d.ms.1];exact hc))⟩,⟨d.si.1.trans A.si.1,λc hc=>(d.si.2 c hc).trans (A.si.2 c (by rw[<-d.si.1];exact hc))⟩,⟨d.so.1.trans A.so.1,λc hc=>(d.so.2 c hc).trans (A.so.2 c (by rw[<-d.so.1];exact hc))⟩,⟨d.sf.1.trans A.sf.1,λc hc=>(d.sf.2 c hc).trans (A.sf.2 c (by rw[<-d.sf.1];exact hc))⟩,λb g m u => ?_⟩
 .have e:=d.os.2 a (by rw[d.os.1,A.osn];exact l);have f:=A.kind a l;exact⟨e.1.trans f.1,e.2.1.trans f.2⟩
 .have f:=A.kind a l;have g:=A.line a l b m;rw[d.line (by rw[A.osn];exact l) (by rw[f.2];exact m)];by_cases c:a=i/\b=j
  .rw[if_pos c];exact g
  rw[if_neg c];exact g
 .have f:=A.kind a l;have g:=A.sum a l b m;rw[d.line (by rw[A.osn];exact l) (by rw[f.2];exact m),d.keptS h.r.fm k.sum];by_cases c:a=i/\b=j
  .rw[if_pos c,if_pos ⟨by omega,by omega⟩];show((y.os.z a).ls.z b).n-(n-t.left)+_=_/\((y.os.z a).ls.z b).n-(n-t.left)<=_;omega
  rw[if_neg c,if_neg (λe=>c ⟨by omega,by omega⟩)];omega
 .have e:=d.on.2 a l;have f:=A.on.2 a (by rw[<-d.on.1];exact l);exact⟨e.1.trans f.1,λc hc=>(e.2 c hc).trans (f.2 c (by rw[<-e.1];exact hc))⟩
 have e:=d.avail h.r.fm q.fm h.on h.ln m u;have f:=A.av b g m u;have B:=k.took0 b;refine⟨by rw[e];split<;>omega,λo => ?_⟩;have v:((b:Nat):Int) ∉ fa p but:=λw=>(wo.1 w).2 o;rw[e,k.other _ v,f.2 o]
 split<;>omega
end
def nj(a b i j:Nat):Prop:=a<i\/a=i/\b<j
structure Pos(p:Pl)(but:Int)(q:Nat->Nat->Int)(s:St)(i j:Nat)(x:St):Prop where
 al:Fe p but s x
 later:∀a b,a<s.os.n->b<(s.os.z a).ls.n->¬nj a b i j->(x.os.z a).ls.z b=(s.os.z a).ls.z b/\keptS x.hs.z a b x.hs.n=keptS s.hs.z a b s.hs.n
 none:∀a b,a<s.os.n->b<(s.os.z a).ls.n->nj a b i j->q a b=((s.os.z a).ls.z b).n->0<((x.os.z a).ls.z b).n->∀c:Nat,c<p.nb->¬((c:Nat):Int)=but->ar x c ((s.os.z a).ls.z b).o.toNat=0
 first:∀a b,a<s.os.n->b<(s.os.z a).ls.n->∀a' b',a'<s.os.n->b'<(s.os.z a').ls.n->nj a b a' b'->nj a' b' i j->q a b=((s.os.z a).ls.z b).n->0<((x.os.z a).ls.z b).n->((s.os.z a).ls.z b).o=((s.os.z a').ls.z b').o->keptS x.hs.z a' b' x.hs.n=keptS s.hs.z a' b' s.hs.n
structure QIn(p:Pl)(but:Int)(q:Nat->Nat->Int)(s:St):Prop where
 r:au p s
 q0:∀a b,a<s.os.n->b<(s.os.z a).ls.n->0<=q a b/\(q a b=0\/(s.os.z a).k=1/\q a b<=((s.os.z a).ls.z b).n)
 bt:but = -1\/0<=but/\but<p.nb
def kt(p:Pl)(but:Int)(q:Nat->Nat->Int)(i:Nat)(s:St):Nat->St->Prop
 | 0,x=>x=s
 | j+1,x=>∃y,kt p but q i s j y/\lg p but y i j (q i j) x
def h9(p:Pl)(but:Int)(q:Nat->Nat->Int)(m:Nat->Nat)(s:St):Nat->St->Prop
 | 0,x=>ae x s
 | i+1,x=>∃y,h9 p but q m s i y/\kt p but q i y (m i) x
section
variable {p:Pl} {but:Int} {q:Nat->Nat->Int} {s y x:St} {i j:Nat}
theorem Pos.stepIn(Q:QIn p but q s)(P:Pos p but q s i j y)(hi:i<s.os.n)(a:j<(s.os.z i).ls.n):j5 p but y i j (q i j):=by
 have k:=P.al.kind i hi;have l:=P.later i j hi a (λe=>by unfold nj at e;omega);have e:=Q.q0 i j hi a;refine⟨P.al.r,by rw[P.al.osn];exact hi,by rw[k.2];exact a,e.1,?_,Q.bt⟩;rw[k.1,l.1];exact e.2
theorem Pos.start(Q:QIn p but q s)(h:ae x s):Pos p but q s 0 0 x :=
 ⟨Fe.self Q.r h,λa b d c _=>⟨h.line d c,h.kept _ _⟩,λa b _ _ c=>by unfold nj at c;omega,λ_ _ _ _ e f _ _ _ c=>by unfold nj at c;omega⟩
theorem Pos.next(P:Pos p but q s i j x)(o:(s.os.z i).ls.n<=j):Pos p but q s (i+1) 0 x:=by
 have key:∀a b,b<(s.os.z a).ls.n->nj a b (i+1) 0->nj a b i j:=λa b c h=>by
  unfold nj at h ⊢;rcases h with h|h
  .by_cases e:a=i
   .subst e;exact Or.inr ⟨rfl,by omega⟩
   exact Or.inl (by omega)
  omega
 refine⟨P.al,λa b d c h=>P.later a b d c (λe=>h ?_),λa b d c h=>P.none a b d c (key a b c h),λa b d c k l g f h m=>P.first a b d c k l g f h (key k l f m)⟩;unfold nj at e ⊢;omega
theorem Pos.step(Q:QIn p but q s)(P:Pos p but q s i j y)(hi:i<s.os.n)(Y:j<(s.os.z i).ls.n)(T:lg p but y i j (q i j) x):Pos p but q s i (j+1) x:=by
 have I:=P.stepIn Q hi Y;have k:=I.tk;have X:=lg.right I T;have A:=P.al.step I T;have B:er y i j (q i j) (Tk.go (avT y i j) (q i j) (fa p but)) x:=T
 generalize ht:Tk.go (avT y i j) (q i j) (fa p but)=t at k B
 have L:=P.later i j hi Y (λe=>by unfold nj at e;omega);have J:∀a,a<s.os.n->∀b,b<(s.os.z a).ls.n->a<y.os.n/\b<(y.os.z a).ls.n:=λa l b m=>⟨by rw[P.al.osn];exact l,by rw[(P.al.kind a l).2];exact m⟩;have other:∀a,a<s.os.n->∀b,b<(s.os.z a).ls.n->¬(a=i/\b=j)->(x.os.z a).ls.z b=(y.os.z a).ls.z b/\keptS x.hs.z a b x.hs.n=keptS y.hs.z a b y.hs.n:=λa l b m d=>by
  have e:=J a l b m;refine⟨by rw[B.line e.1 e.2,if_neg d],?_⟩;rw[B.keptS I.r.fm k.sum,if_neg (λe=>d ⟨by omega,by omega⟩),Int.add_zero]
 have S:∀a b,nj a b i (j+1)->¬(a=i/\b=j)->nj a b i j:=λa b h d=>by
  unfold nj at h ⊢;omega
 have ah:=k.left0;have hg:=I.tki.good;have F:((y.os.z i).ls.z j).o=((s.os.z i).ls.z j).o:=by rw[L.1]
 refine⟨A,λa b l m h => ?_,λa b l m h H D c hc V => ?_,λa b l m K M E W h h' H D U => ?_⟩
 .have d:¬(a=i/\b=j):=λe=>h (by unfold nj;omega);have e:=other a l b m d;have f:=P.later a b l m (λe=>h (by unfold nj at e ⊢;omega));exact⟨e.1.trans f.1,e.2.trans f.2⟩
 .by_cases d:a=i/\b=j
  .obtain⟨rfl,rfl⟩:=d;have e:=B.line (J a l b m).1 (J a l b m).2;rw[if_pos ⟨rfl,rfl⟩] at e;have hx:((x.os.z a).ls.z b).n=((y.os.z a).ls.z b).n-(q a b-t.left):=by rw[e];rfl
   rw[hx,L.1,<-H] at D;have G:((c:Nat):Int)∈fa p but:=wo.2 ⟨Tj hc,V⟩;have E:=k.all (by omega) c G;rw[<-F,B.avail I.r.fm X.fm I.on I.ln hc (by omega),if_pos (by omega),E];unfold avT;show ar y c _-ar y c _=0;omega
  have e:=other a l b m d;rw[e.1] at D;have f:=P.none a b l m (S a b h d) H D c hc V;have gg:=(dz (Q.r.fm.line a l b m)).1;have u:=B.avail I.r.fm X.fm I.on I.ln hc (g:=((s.os.z a).ls.z b).o.toNat) (by omega);have t0:=k.took0 c;have v:=(km (X.goods ((s.os.z a).ls.z b).o.toNat (by omega))).2 c hc;rw[f] at u
  split at u<;>omega
 have aa:¬(a=i/\b=j):=λe=>by unfold nj at h h';omega
 have ac:=other a l b m aa;rw[ac.1] at D;by_cases d:K=i/\M=j;rotate_left
 .have e:=other K E M W d;rw[e.2];exact P.first a b l m K M E W h (S K M h' d) H D U
 obtain⟨rfl,rfl⟩:=d;have f:=P.none a b l m h H D;have tz:∀c:Nat,c<6->t.took c=0:=λc hc=>by
  by_cases G:((c:Nat):Int)∈fa p but
  .have w:=j5.way _ G;have u:=f c (by omega) (wo.1 G).2;have v:=k.had _ G;have t0:=k.took0 c;have e2:avT y K M c=ar y c ((s.os.z a).ls.z b).o.toNat:=by
    unfold avT;rw[F,U]
    rfl
   rw[e2,u] at v;omega
  exact k.other _ G
 have sz:=k.sum;rw[uh λc hc=>tz c hc] at sz;rw[B.keptS I.r.fm k.sum,if_pos ⟨rfl,rfl⟩,L.2];omega
theorem kt.pos(Q:QIn p but q s)(P:Pos p but q s i 0 y)(hi:i<s.os.n):∀{j:Nat} {x:St},j<=(s.os.z i).ls.n->kt p but q i y j x->Pos p but q s i j x
 | 0,x,_,h=>by
  have a:x=y:=h;rw[a];exact P
 | j+1,x,hj,h=>by
  obtain⟨z,b,T⟩:=h;exact(kt.pos Q P hi (by omega) b).step Q hi (by omega) T
theorem h9.pos{m:Nat->Nat}(Q:QIn p but q s)(b:∀a,a<s.os.n->m a=(s.os.z a).ls.n):∀{i:Nat} {x:St},i<=s.os.n->h9 p but q m s i x->Pos p but q s i 0 x
 | 0,x,_,h=>Pos.start Q h
 | i+1,x,hi,h=>by
  obtain⟨z,c,T⟩:=h;have P:=h9.pos Q b (i:=i) (by omega) c;rw[b i (by omega)] at T;exact(kt.pos Q P (by omega) nlr T).next nlr
theorem kt.skip(Q:QIn p but q s)(P:Pos p but q s i 0 y)(hi:i<s.os.n):∀{j:Nat},j<=(s.os.z i).ls.n->(∀b,b<j->q i b=0)->kt p but q i y j y
 | 0,_,_=>rfl
 | j+1,hj,h0=>by
  have T:=kt.skip Q P hi (j:=j) (by omega) λb a=>h0 b (by omega);refine⟨y,T,?_⟩;have I:=(kt.pos Q P hi (by omega) T).stepIn Q hi (by omega);rw[h0 j (by omega)] at I ⊢;exact lg.skip I.tki
theorem kt.same{b:St}(Q:QIn p but q s)(P:Pos p but q s i 0 y)(e:ae b y)(hi:i<s.os.n):∀{j:Nat} {x a:St},j<=(s.os.z i).ls.n->kt p but q i y j x->kt p but q i b j a->ae a x
 | 0,x,a,_,h,h'=>by
  have c:x=y:=h;have d:a=b:=h';rw[c,d];exact e
 | j+1,x,a,hj,⟨z,hz,T⟩,⟨z',hz',T'⟩=>by
  have f:=kt.same Q P e hi (j:=j) (by omega) hz hz';exact lg.same ((kt.pos Q P hi (by omega) hz).stepIn Q hi (by omega)).tki f T T'
theorem h9.same{m:Nat->Nat}(Q:QIn p but q s)(c:∀a,a<s.os.n->m a=(s.os.z a).ls.n):∀{i:Nat} {x b:St},i<=s.os.n->h9 p but q m s i x->h9 p but q m s i b->ae b x
 | 0,x,b,_,h,h'=>ae.trans h' (ae.symm h)
 | i+1,x,b,hi,⟨z,hz,T⟩,⟨z',hz',T'⟩=>by
  have f:=h9.same Q c (i:=i) (by omega) hz hz';exact kt.same Q (h9.pos Q c (by omega) hz) f (by omega) (by rw[c i (by omega)];exact Nat.le_refl _) T T'
theorem kt.base{c:Nat->Nat->Int}(a:∀b,b<(s.os.z i).ls.n->c i b=q i b):∀{j:Nat} {x:St},j<=(s.os.z i).ls.n->kt p but c i y j x->kt p but q i y j x
 | 0,x,_,h=>h
 | j+1,x,hj,⟨z,hz,T⟩=>⟨z,kt.base a (by omega) hz,by rw[<-a j (by omega)];exact T⟩
theorem h9.base{d:St}{j:Nat->Nat->Int}{m m':Nat->Nat}(e:ae d s)(f:∀a,a<s.os.n->m a=(s.os.z a).ls.n)(c:∀a,a<s.os.n->m' a=m a)(g:∀a b,a<s.os.n->b<(s.os.z a).ls.n->j a b=q a b):∀{i:Nat} {x:St},i<=s.os.n->h9 p but j m' d i x->h9 p but q m s i x
 | 0,x,_,h=>ae.trans h e
 | i+1,x,hi,⟨z,hz,T⟩=>⟨z,h9.base e f c g (by omega) hz,by
   rw[c i (by omega)] at T;exact kt.base (s:=s) (λb k=>g i b (by omega) k) (by rw[f i (by omega)];exact Nat.le_refl _) T⟩
end
def abt(h:Hs)(x:Hd):Hs:=⟨h.a,pn h.n h.z x,h.c,xy h.n h.z x⟩
def Vk(s:St)(o l:Nat)(m b:Int):St:=if 0<m then withHolds (setLine s o l 3 (((s.os.z o).ls.z l).n-m)) (abt s.hs (kg o l b m)) else s
def Vl(s0:St)(o l:Nat):List Int->Int->St->St
 | [],_,x=>x
 | b :: L,n,x=>Vl s0 o l L (n-min n (avT s0 o l b)) (Vk x o l (min n (avT s0 o l b)) b)
def Vm(p:Pl)(but:Int)(s:St)(o l:Nat)(n:Int):St:=Vl s o l (fa p but) n s
theorem Mv{p:Pl}{s:St}{o l:Nat}{n:Int}(h:ix p s o l n):∀(f a:List Int) (x:St),(∀c,c∈a++f->0<=c/\c<p.nb)->(a++f).Pairwise (λx y=>¬x=y)->er s o l n (Tk.go (avT s o l) n a) x->er s o l n (Tk.go (avT s o l) n (a++f)) (Vl s o l f (Tk.go (avT s o l) n a).left x)
 | [],a,x,_,_,T=>by rw[List.append_nil];exact T
 | b :: L,a,x,hc,hp,T=>by
  have e:a++b :: L=(a++[b])++L:=by simp
  have q:=hc b (by simp);have k:=h.tk (L:=a) (List.pairwise_append.1 hp).1 (λc d=>hc c (by simp[d]));have t:=k.left0;have r:0<=avT s o l b:=h.av _ (by omega);have j:er s o l n (Tk.go (avT s o l) n (a++[b])) (Vk x o l (min (Tk.go (avT s o l) n a).left (avT s o l b)) b):=by
   rw[Tk.go_more];unfold Vk;by_cases g:0<min (Tk.go (avT s o l) n a).left (avT s o l b)
   .rw[if_pos g];have i:=(h.addE (λc d=>hc c (by simp[d])) k T q g (Int.min_le_left _ _)).2.2;exact T.stepAdd (order:=o) (line:=l) (y:=abt x.hs (kg o l b (min (Tk.go (avT s o l) n a).left (avT s o l b)))) h.on h.ln rfl i ⟨(if_pos i).symm,λ_ _=>rfl⟩
   rw[if_neg g];exact T.stepZero (by omega)
  have R:=Mv h L (a++[b]) _ (by rw[<-e];exact hc) (by rw[<-e];exact hp) j;rw[e];have m:(Tk.go (avT s o l) n (a++[b])).left=(Tk.go (avT s o l) n a).left-min (Tk.go (avT s o l) n a).left (avT s o l b):=by rw[Tk.go_more];rfl
  rw[m] at R;exact R
theorem xu{p:Pl}{s:St}{o l:Nat}{n but:Int}(h:ix p s o l n):lg p but s o l n (Vm p but s o l n):=
 Mv h (fa p but) [] s (λc hc=>j5.way c hc) (uj p but) (er.start (n:=n) h.fm.hold (ae.self s))
def Vg(p:Pl)(but:Int)(q:Nat->Nat->Int)(i:Nat):Nat->St->St
 | 0,s=>s
 | j+1,s=>Vm p but (Vg p but q i j s) i j (q i j)
def Tw(p:Pl)(but:Int)(q:Nat->Nat->Int)(m:Nat->Nat):Nat->St->St
 | 0,s=>s
 | i+1,s=>Vg p but q i (m i) (Tw p but q m i s)
section
variable {p:Pl} {but:Int} {q:Nat->Nat->Int} {s y:St} {i:Nat}
theorem Rn(Q:QIn p but q s)(P:Pos p but q s i 0 y)(hi:i<s.os.n):∀{j:Nat},j<=(s.os.z i).ls.n->kt p but q i y j (Vg p but q i j y)
 | 0,_=>rfl
 | j+1,hj=>by
  have T:=Rn Q P hi (j:=j) (by omega);exact⟨_,T,xu ((kt.pos Q P hi (by omega) T).stepIn Q hi (by omega)).tki⟩
theorem Kd{m:Nat->Nat}(Q:QIn p but q s)(b:∀a,a<s.os.n->m a=(s.os.z a).ls.n):∀{i:Nat},i<=s.os.n->h9 p but q m s i (Tw p but q m i s)
 | 0,_=>ae.self s
 | i+1,hi=>by
  have T:=Kd Q b (i:=i) (by omega);exact⟨_,T,by
   rw[show m i=(s.os.z i).ls.n from b i (by omega)];show kt p but q i _ _ (Vg p but q i (m i) _);rw[b i (by omega)];exact Rn Q (h9.pos Q b (by omega) T) (by omega) nlr⟩
end
def vj(x:Hd):Hd:=⟨x.o,x.l,x.b,x.l-x.b⟩
def xg(h:Hs)(k:Nat):Hs:=⟨h.a,h.n,h.c,λj=>if j<k then vj (h.z j) else h.z j⟩
def F1(os:Os)(i k:Nat):Os:=⟨os.a,os.n,os.c,λa=>if a=i then ⟨(os.z a).k,xg (os.z a).ls k⟩ else os.z a⟩
def fg(s:St)(i k:Nat):St:=⟨s.on,F1 s.os i k,s.hs,s.ms,s.si,s.so,s.sf⟩
theorem vw(s:St)(i k:Nat):((fg s i k).os.z i)=⟨(s.os.z i).k,xg (s.os.z i).ls k⟩:=if_pos rfl
theorem F3(s:St)(i:Nat):fg s i 0=s:=by
 unfold fg F1;have e:(λa=>if a=i then(⟨(s.os.z a).k,xg (s.os.z a).ls 0⟩:Od) else s.os.z a)=s.os.z:=by
  funext a
  by_cases h:a=i
  .rw[if_pos h];have c:xg (s.os.z a).ls 0=(s.os.z a).ls:=by
    unfold xg;have b:(λj=>if j<0 then vj ((s.os.z a).ls.z j) else(s.os.z a).ls.z j)=(s.os.z a).ls.z:=by funext j;rw[if_neg (Qzq _)]
    rw[b]
   rw[c]
  rw[if_neg h]
 rw[e]
theorem F2(s:St)(i k:Nat):setLine (fg s i k) i k 3 (((s.os.z i).ls.z k).l-((s.os.z i).ls.z k).b)=fg s i (k+1):=by
 have e:Cl (F1 s.os i k) i k 3 (((s.os.z i).ls.z k).l-((s.os.z i).ls.z k).b)=F1 s.os i (k+1):=by
  unfold Cl F1;dsimp only
  congr 1
  funext a
  by_cases h:a=i
  .subst h;simp only[↓reduceIte]
   congr 1
   unfold yv xg;dsimp only
   congr 1
   funext j
   by_cases d:j=k
   .subst d;rw[if_pos rfl,if_neg (Nat.lt_irrefl _),if_pos (by omega)]
    rfl
   rw[if_neg d];by_cases c:j<k
   .rw[if_pos c,if_pos (by omega)]
   rw[if_neg c,if_neg (by omega)]
  rw[if_neg h,if_neg h,if_neg h]
 unfold setLine;rw[show(fg s i k).os=F1 s.os i k from rfl,e]
 rfl
def nx(w wk:World):Prop:=∀(q:Nat) (t:TypeId) (m:Nat) (f:Nat->Value),t≠59->t≠57->Blk w q t m f->Blk wk q t m f
theorem nx.below{w a b:World}(h:nx w a)(c:Below a.heap.size a b):nx w b:=λq t m f d g e=>(h q t m f d g e).below c
theorem nx.refl(w:World):nx w w:=λ_ _ _ _ _ _ h=>h
theorem nx.trans{w a c:World}(h:nx w a)(k:nx a c):nx w c:=λq t m f b d e=>k q t m f b d (h q t m f b d e)
theorem nx.setLine{w b:World}(h:nx w b){B n:Nat}{z:Nat->Value}(g:Blk b B 59 n z)(j:Nat)(u:Value):nx w (b.setCell ⟨B,j,none⟩ u):=λq t m f c e d=>(h q t m f c e d).other (a:=⟨B,j,none⟩) (Blk.ne2 (h q t m f c e d) g c) u
theorem nx.setOrder{w b:World}(h:nx w b){B n:Nat}{z:Nat->Value}(g:Blk b B 57 n z)(j:Nat)(u:Value):nx w (b.setCell ⟨B,j,none⟩ u):=λq t m f d c e=>(h q t m f d c e).other (a:=⟨B,j,none⟩) (Blk.ne2 (h q t m f d c e) g c) u
theorem Q8(x:St)(i A gO:Nat)(w:World)(hA:A<=w.heap.size)(M:ai A w x)(hi:i<x.os.n)(y:x.os.a=some ⟨gO,0,none⟩)(T:∀j,j<(x.os.z i).ls.n->(0<=((x.os.z i).ls.z j).l/\((x.os.z i).ls.z j).l<=200)/\0<=((x.os.z i).ls.z j).b/\((x.os.z i).ls.z j).b<=200):
  Calls prog 99 #[.pointer (some ⟨gO,i*2,none⟩)] w λe J=>e = .returned (.tuple #[])/\ai A J (fg x i (x.os.z i).ls.n)/\Below A w J/\nx w J:=by
 obtain⟨g,F,bk,E⟩:=M.os.list (by omega);obtain⟨B,b1,b2,b3,b4,b5⟩:=M.os.lines i hi;have aq:g=gO:=by rw[y] at F;simpa using F.symm
 subst aq;have bl:Hid (∀q k,ai A q (fg x i k)->∀{l:Nat},l<(x.os.z i).ls.n->∃f B',(fg x i k).os.a=some ⟨f,0,none⟩/\f<q.heap.size/\q.cell? ⟨f,i*2+1,none⟩=some (.slice (some ⟨B',0,none⟩) (x.os.z i).ls.n (x.os.z i).ls.c)/\((fg x i k).os.z i).ls.a=some ⟨B',0,none⟩):=λq k h l hl=>by
  have H:l<((fg x i k).os.z i).ls.n:=by rw[vw];exact hl
  obtain⟨f,B',P,f2,f3,u,v,_⟩:=h.lineCell (o:=i) (l:=l) hi H;rw[vw] at u;exact⟨f,B',P,f3,u,v⟩
 have ap:Hid _:=T;have c0:=E.cell (j:=i*2+1) (by omega);rw[pa (z:=x.os.z) hi (show 1<2 by decide)] at c0;have c1:w.cell? ⟨g,i*2+1,none⟩=some (.slice (x.os.z i).ls.a (x.os.z i).ls.n (x.os.z i).ls.c):=c0;clear c0;rw[b1] at c1;have gl:=E.lt;have r:Hid (ai A w (fg x i 0)):=by show ai A w (fg x i 0);rw[F3];exact M
 have a0:=hid b1;have a3:=hid y;unfold maxLen at b4;clear M F E b1 b5 y T;go_enter func99,ntmps99;go_wp2_with fail;clear c1 gl
 go_loopw [9] (λkv q=>∃k:Nat,k<=(x.os.z i).ls.n/\kv = .int .i64 k/\Hid (ai A q (fg x i k))/\Hid (Below A w q)/\Hid (nx w q)) (λkv _=>(x.os.z i).ls.n-(intOf kv).toNat)
 case atStart=>exact⟨0,Qxz _,rfl,r,Below.refl _ _,nx.refl _⟩
 clear r;obtain⟨k,hk,rfl,r,Q,HK⟩:=hrel;by_cases ad:k<(x.os.z i).ls.n;rotate_left
 .have a6:k=(x.os.z i).ls.n:=by omega
  subst a6;go_wp2_with fail
  first|go_end0|refine Xzq (results_none rfl _ _ _) rfl ?_
  exact⟨rfl,r.out,Q.out,HK.out⟩
 have H:k<((fg x i k).os.z i).ls.n:=by rw[vw];exact ad
 obtain⟨f,B',P,f2,f3,u,v,f6,f7,f8,f9,ay,a7,av,ar,aw⟩:=r.out.lineCell (o:=i) (l:=k) hi H;have e1:f=g:=by
  have h:x.os.a=some ⟨f,0,none⟩:=P;rw[a3.out] at h
  simpa using h.symm
 have e2:B'=B:=by
  have h:(x.os.z i).ls.a=some ⟨B',0,none⟩:=by rw[vw] at v;exact v
  rw[a0.out] at h
  simpa using h.symm
 subst e1;subst e2;have U:Hid (((fg x i k).os.z i).ls.a=some ⟨B',0,none⟩):=v;have hz:((fg x i k).os.z i).ls.z k=(x.os.z i).ls.z k:=by
  rw[vw];exact if_neg (Nat.lt_irrefl _)
 rw[hz] at a7 av ar aw;rw[vw] at u;have a8:wr.cell? ⟨f,i*2+1,none⟩=some (.slice (some ⟨B',0,none⟩) (x.os.z i).ls.n (x.os.z i).ls.c):=u;clear u;have a4:Hid (setLine (fg x i k) i k 3 (((x.os.z i).ls.z k).l-((x.os.z i).ls.z k).b)=fg x i (k+1)):=F2 x i k;have hb:=ap.out k ad;have q0:(0:Int)<=(k:Int):=by omega
 have q1:(k:Int)<((x.os.z i).ls.n:Int):=by omega
 generalize (x.os.z i).ls.z k=Z at *
 obtain⟨W,hW,t,KX⟩:∃W,wr.alloc (.cells #[.int .i64 Z.o,.int .i64 Z.l,.int .i64 Z.b,.int .i64 Z.n] 59)=W/\Below wr.heap.size wr W/\Blk W wr.heap.size 59 4 (λj=>(#[.int .i64 Z.o,.int .i64 Z.l,.int .i64 Z.b,.int .i64 Z.n]:Array Value).getD j default):=⟨_,rfl,brf.alloc nlr _,Blk.mk' rfl rfl⟩;have HW:Hid (wr.alloc (.cells #[.int .i64 Z.o,.int .i64 Z.l,.int .i64 Z.b,.int .i64 Z.n] 59)=W):=hW;have ae:=hid (r.out.below t);have D:=Q.out.trans (t.mono (Qzx hA Q.out.size));have aa:Hid (nx w W):=HK.out.below t;have t1:∀d os,(grow (redrawn W d) os).cell? ⟨f,i*2+1,none⟩=some (.slice (some ⟨B',0,none⟩) (x.os.z i).ls.n (x.os.z i).ls.c):=λd os=>Qqq ((t.cell (p:=⟨f,i*2+1,none⟩) f3).trans a8) d os;have t2:=Qqq (KX.k 1);have t3:=Qqq (KX.k 2);clear hW hz P f2 v f8 f9 ay KX r Q HK;go_wp2_with fail;rw[HW.out];refine jt (λJ=>∃p:Regrown,J=grow (redrawn W p.d) p.os) (List.range 12) [] [(true,12)] (Qqx (brf.drew)) ?_;rw[show List.range 12=[0,1,2,3,4,5,6,7,8,9,10,11] from rfl];simp only[dv,Qyq,Xqq,Qyx,Qyz,Xqz,Xqx]
 repeat(go_big_quiet_step(fail))
 refine Qqz ?_;clear t1 t2 t3;refine⟨λ_ _ _ _=>True,Qjq _,Qjq _,Qjq _,λV G wj hS _ _ => ?_⟩;have S:=af hS;have K:=ai.below ae.out S;have ab:=D.trans (S.mono (Qzx hA D.size));have Y:=aa.out.below S;obtain⟨Bq,s,-,-,-,m⟩:=K.os.lines i hi;rw[U.out] at s;simp only[Qkx,Qkz,and_true] at s;subst s;have zl:=m.lt;have zf:=m.frozen (k*4+3);have zc:=m.cell (j:=k*4+3) (by omega);have L:=K.setLine (o:=i) hi U.out k 3 (by decide) (Z.l-Z.b);have X:=Y.setLine m (k*4+3) (.int .i64 (Z.l-Z.b));have ac:=ab.setCell (p:=⟨B',k*4+3,none⟩) (by show A<=B';omega) (.int .i64 (Z.l-Z.b));rw[a4.out] at L;have HN:=qa3 L ac X;clear K ab Y m L X ac S hS ae aa D
 generalize (ax ((fg x i k).os.z i).ls.n ((fg x i k).os.z i).ls.z).getD (k*4+3) default=VV at zc
 simp only[am];refine dj 12 rfl ?_;go_wp2_with fail;refine⟨jp.yes,?_⟩;refine NoPanic.normal ?_;go_wp2_with fail;go_roundw
 case rel=>exact⟨k+1,by omega,by go_num,HN.out.1,HN.out.2.1,HN.out.2.2⟩
 case measure=>simp[intOf];omega
theorem aa1(w:World):(zeroValue 3).run prog w = .ok (.int .i64 0) w:=by kernel_rfl
theorem Blk.setCells{g:Nat}{e:TypeId}{n:Nat}{f:Nat->Value}:∀(a:List Value) (o:Nat) (w:World),Blk w g e n f->n<=o->Blk (w.setCells g o a) g e n f
 | [],_,_,h,_=>h
 | v :: r,o,w,h,hn=>by
  rw[World.setCells];exact Blk.setCells r (o+1) _ ((h.set o v).congr λj b=>by rw[if_neg (by omega)]) (by omega)
theorem x9{B g:Nat}(b:B<=g){a:World}:∀(c:List Value) (o:Nat) (w:World),Below B a w->Below B a (w.setCells g o c)
 | [],_,_,h=>h
 | v :: r,o,w,h=>by
  rw[World.setCells];exact x9 b r (o+1) _ (h.setCell (p:=⟨g,o,none⟩) b v)
theorem Blk.less{w:World}{g:Nat}{e:TypeId}{n m:Nat}{f:Nat->Value}(h:Blk w g e n f)(d:m<=n):Blk w g e m f:=by
 obtain⟨cur,b,i,a⟩:=h;exact⟨cur,b,by omega,λj c=>a j (by omega)⟩
theorem ab9(f:Nat)(caps:Array Value)(bad:Nat->Bool)(A:Nat)(a:Option Addr)(n c:Nat)(w:World)(B:A<=w.heap.size)(E:n<=c)(hc:c<=maxLen)(z:Nat->Int)(t:vm w a n z)
  (G:∀args w,(callFunc f args).run prog w = .ok (.enter f args) w)
  (D:Hid (∀i d,i<n->Below A w d->Calls prog f (#[.int .i64 (z i)]++caps) d λe q=>e = .returned (.bool (bad i))/\Below d.heap.size d q)) :
  Calls prog 126 #[.slice a n c,.func (.func f) #[] caps] w λe q=>((e = .returned (.int .i64 (-1))/\∀j,j<n->bad j=false)\/∃k,k<n/\e = .returned (.int .i64 (k:Nat))/\bad k=true/\∀j,j<k->bad j=false)/\Below w.heap.size w q:=by
 unfold maxLen at hc;go_enter func126,ntmps126;go_wp2_with fail
 go_loopw [8] (λi d=>∃k:Nat,k<=n/\i = .int .i64 k/\(∀j,j<k->bad j=false)/\Below w.heap.size w d) (λi _=>n-(intOf i).toNat)
 case atStart=>exact⟨0,Qxz _,rfl,λj u=>absurd u (Qzq _),Below.refl _ _⟩
 obtain⟨k,F,rfl,m,g⟩:=hrel;have r:=hid m;clear m;by_cases h:k<n;rotate_left
 .go_wp2_with fail;go_ret;have s:k=n:=by omega
  subst s;exact⟨Or.inl ⟨rfl,r.out⟩,g⟩
 obtain⟨b,o,rfl,_,y⟩:=(t.below g) k h;clear t;go_wp2_with fail;refine(D.out k wr h (g.mono B)).mono ?_;rintro e d ⟨rfl,v⟩;have p:=g.trans (v.mono g.size);cases l:bad k
 .go_wp2_with fail;go_roundw
  case measure=>simp[intOf];omega
  refine⟨k+1,by omega,by go_num,?_,p⟩;intro j u;by_cases x:j=k
  .rw[x,l]
  exact r.out j (by omega)
 go_wp2_with fail;go_ret;exact⟨Or.inr ⟨k,h,rfl,l,r.out⟩,p⟩
def qw(bad:Int->Bool)(xs:List Int)(k:Nat):List Int:=(xs.take k).filter (λx => !bad x)
theorem Kq(bad:Int->Bool)(a:List Int):qw bad a a.length=a.filter (λx => !bad x):=by unfold qw;rw[List.take_length]
theorem Iq{bad:Int->Bool}{a:List Int}{k:Nat}(b:k<a.length):qw bad a (k+1)=qw bad a k++if bad (a.getD k 0) then [] else [a.getD k 0]:=by
 unfold qw;have e:a.getD k 0=a[k]:=by simp[List.getD,List.getElem?_eq_getElem b]
 rw[List.take_add_one,List.getElem?_eq_getElem b,List.filter_append,e]
 congr 1
 cases h:bad a[k]<;>simp[h]
theorem Ip{bad:Int->Bool}{a:List Int}:∀{k:Nat},k<=a.length->(∀j,j<k->bad (a.getD j 0)=false)->qw bad a k=a.take k
 | 0,_,_=>by simp[qw]
 | k+1,hk,h=>by
  rw[Iq (by omega),Ip (k:=k) (by omega) (λj b=>h j (by omega)),h k (by omega),List.take_add_one];simp[List.getD,List.getElem?_eq_getElem (show k<a.length by omega)]
def Pw(g:Nat)(bad:Int->Bool)(xs:List Int)(k:Nat)(wk:World):Prop:=∃c:Nat->Value,Blk wk g 3 xs.length c/\(∀q,q<(qw bad xs k).length->c q = .int .i64 ((qw bad xs k).getD q 0))/\∀q,k<=q->q<xs.length->c q = .int .i64 (xs.getD q 0)
theorem X7(f:Nat)(caps:Array Value)(bad:Int->Bool)(A g cap:Nat)(a:List Int)(w:World)(hA:A<=g)(S:A<=w.heap.size)(hn:a.length<=cap)(J:cap<=maxLen)(hb:Blk w g 3 a.length (λj => .int .i64 (a.getD j 0)))
  (eg:∀args w,(callFunc f args).run prog w = .ok (.enter f args) w)
  (hf:Hid (∀(x:Int) o,Below A w o->Calls prog f (#[.int .i64 x]++caps) o λe V=>e = .returned (.bool (bad x))/\Below o.heap.size o V)) :
  Calls prog 143 #[.slice (some ⟨g,0,none⟩) a.length cap,.func (.func f) #[] caps] w λe V=>e = .returned (.slice (some ⟨g,0,none⟩) (a.filter (λx => !bad x)).length cap)/\Blk V g 3 (a.filter (λx => !bad x)).length (λj => .int .i64 ((a.filter (λx => !bad x)).getD j 0))/\Below A w V:=by
 have W:=J;unfold maxLen at J;have K:=hid hb;have hz:vm w (some ⟨g,0,none⟩) a.length (λj=>a.getD j 0):=hb.ints;clear hb;go_enter func143,ntmps143;go_wp2_with fail;refine(ab9 f caps (λj=>bad (a.getD j 0)) A _ _ _ w S hn W _ hz eg (λi o _ h=>hf.out _ o h)).mono ?_;rintro e o ⟨h,v⟩;clear hz;have T:=v.mono S;rcases h with⟨rfl,n⟩|⟨B,aq,rfl,H,n⟩
 .have G:a.filter (λx => !bad x)=a:=by
   have:=Ip (bad:=bad) (Nat.le_refl a.length) n;rw[Kq,List.take_length] at this;exact this
  have HF:=hid G;clear G n;go_wp2_with fail;go_ret;rw[HF.out];exact⟨rfl,K.out.below v,T⟩
 have M:qw bad a (B+1)=a.take B:=by rw[Iq aq,Ip (by omega) n,H];simp
 have F:(qw bad a (B+1)).length=B:=by rw[M,List.length_take];omega
 have H0:Hid (Pw g bad a (B+1) o):=⟨_,K.out.below v,λq z=>by
  rw[F] at z;rw[M];simp only[List.getD,List.getElem?_take,if_pos z],λq _ _=>rfl⟩
 have L:=hid F;clear M F H n K;go_wp2_with fail
 go_loopw [5,6] (λi j wk=>∃k:Nat,k<=a.length/\j = .int .i64 k/\i = .int .i64 ((qw bad a k).length:Nat)/\(qw bad a k).length<k/\Hid (Pw g bad a k wk)/\Below A w wk) (λ_ j _=>a.length-(intOf j).toNat)
 case atStart=>exact⟨B+1,by omega,by go_num,by rw[L.out],by rw[L.out];omega,H0,T⟩
 clear H0 L T v;obtain⟨k,hk,rfl,rfl,m,HD,U⟩:=hrel;by_cases y:k<a.length;rotate_left
 .have am:k=a.length:=by omega
  subst am;obtain⟨c,b,d,s⟩:=HD.out;have l:Hid (qw bad a a.length=a.filter (λx => !bad x)):=Kq bad a;rw[Kq] at m d ⊢;obtain⟨I,t⟩:∃I,(a.filter (λx => !bad x)).length=I:=⟨_,rfl⟩;have HI:=hid t;rw[t] at m d ⊢;clear t;obtain⟨N,hN⟩:∃N,a.length=N:=⟨_,rfl⟩;rw[hN] at m hn b ⊢;clear hN s y hk HD;have a3:¬cap=I:=by omega
  have a4:∀ty,(Builtin.clear_ #[23] ty #[.slice (some ⟨g,I,none⟩) (N-I) (cap-I)]).run prog wr = .ok (.tuple #[]) (wr.setCells g I (List.replicate (N-I) (.int .i64 0))):=λty =>
   Lib.run_clear_slice wr 23 3 ty (.int .i64 0) underlying23 aa1 rfl rfl g I (N-I) (cap-I) (by omega) (λj hj=>by rw[b.cell (by omega)];rfl) (λj _=>b.frozen _)
  have af:Hid (Blk (wr.setCells g I (List.replicate (N-I) (.int .i64 0))) g 3 I (λj => .int .i64 ((a.filter (λx => !bad x)).getD j 0))/\Below A w (wr.setCells g I (List.replicate (N-I) (.int .i64 0)))):=
   ⟨Blk.setCells _ _ _ ((b.less (by omega)).congr λj hj=>d j hj) nlr,x9 hA _ _ _ U⟩
  clear b d;go_wp2_with fail;go_ret;rw[HI.out];exact⟨rfl,af.out⟩
 obtain⟨c,b,d,s⟩:=HD.out;have u:=qa3 b d s;have z0:wr.cell? ⟨g,k,none⟩=some (.int .i64 (a.getD k 0)):=(b.cell y).trans (by rw[s k nlr y]);have Y:Hid (qw bad a (k+1)=qw bad a k++if bad (a.getD k 0) then [] else [a.getD k 0]):=Iq y;clear b d s HD;obtain⟨X,hX⟩:∃X,a.getD k 0=X:=⟨_,rfl⟩;have ac:=hid hX;rw[hX] at z0;clear hX;obtain⟨I,t⟩:∃I,(qw bad a k).length=I:=⟨_,rfl⟩;have l:=hid t;rw[t] at m ⊢;clear t;go_wp2_with fail;refine(hf.out X wr U).mono ?_;rintro e w2 ⟨rfl,ae⟩;have ad:=U.trans (ae.mono (Qzx S U.size));have D:=u.out.1.below ae;cases ab:bad X;rotate_left
 .have r:Hid (Pw g bad a (k+1) w2/\(qw bad a (k+1)).length=I):=by
   have E:qw bad a (k+1)=qw bad a k:=by rw[Y.out,ac.out,ab];simp
   rw[E];exact⟨⟨c,D,by rw[E];exact u.out.2.1,λq z P=>u.out.2.2 q (by omega) P⟩,l.out⟩
  clear D u Y;go_wp2_with fail;go_roundw
  case rel=>exact⟨_,_,_,_,_,_,_,_,_,_,_,_,_,_,_,_,_,_,_,_,_,_,_,⟨k+1,by omega,by go_num,by rw[r.out.2],by rw[r.out.2];omega,r.out.1,ad⟩,rfl⟩
  case measure=>simp[intOf];omega
 have y1:=D.frozen I;have y2:=D.cell (j:=I) (by omega);have KB:=D.set I (.int .i64 X);have r:Hid (Pw g bad a (k+1) (w2.setCell ⟨g,I,none⟩ (.int .i64 X))/\Below A w (w2.setCell ⟨g,I,none⟩ (.int .i64 X))/\(qw bad a (k+1)).length=I+1):=by
  have E:qw bad a (k+1)=qw bad a k++[X]:=by rw[Y.out,ac.out,ab];rfl
  have e2:(qw bad a (k+1)).length=I+1:=by rw[E,List.length_append,l.out];rfl
  refine⟨⟨_,KB,λq z => ?_,λq z P => ?_⟩,ad.setCell (p:=⟨g,I,none⟩) hA _,e2⟩
  .rw[e2] at z;show(if q=I then Value.int .i64 X else c q)=_;rw[E];by_cases Q:q=I
   .rw[if_pos Q];simp only[List.getD];rw[List.getElem?_append_right (by rw[l.out];omega),l.out,Q];simp
   rw[if_neg Q,u.out.2.1 q (by rw[l.out];omega)];simp only[List.getD];rw[List.getElem?_append_left (by rw[l.out];omega)]
  show(if q=I then Value.int .i64 X else c q)=_;rw[if_neg (by omega),u.out.2.2 q (by omega) P]
 clear D KB u Y;go_wp2_with fail;go_roundw
 case rel=>exact⟨_,_,_,_,_,_,_,_,_,_,_,_,_,_,_,_,_,_,_,_,_,_,_,⟨k+1,by omega,by go_num,by rw[r.out.2.2];go_num,by rw[r.out.2.2];omega,r.out.1,r.out.2.1⟩,rfl⟩
 case measure=>simp[intOf];omega
end Go.Proofs.YtbcacebifpagpagGreat

/- Texts that were built one behind the other, joined; what LogDoes does not reach is left out. -/
import Derived.Test.YtbcacebifpagpafGreatK2LogDoes
import Derived.Laws.ResultCell
import Derived.Lib.SliceRun
set_option maxHeartbeats 8000000
set_option maxRecDepth 100000
namespace Go.Proofs.YtbcacebifpagpafGreat
variable{b n g A l o i m q j R M N:Nat}{w a c d:World}{s x y:St}{r W J K:Int}{e t:TypeId}{p:Pl}{z D:Nat->Hd}{Q:Exit->Act->World->Prop}{f f':Nat->Value}{v c1 c3 c2:Value}{H O:Hs}{U:List Value}{P:Program}{V X:Int->Int->Int}{Y:Array Oper}{Z E:Hd->Bool}{h:Hd}{S:World->Prop}{a1:Act}{z' zs:Nat->Int}{L:Array Bool}
open _root_.Go.Proofs.Tryz
open Go.RowKit
set_option linter.unusedVariables false
theorem L5{z:Nat->Hd}{h:Hd}(f:gy h=true):∀n,aw n (da z)=false->∃i,Q0 n z h i
 | 0,_=>⟨0,Nat.le_refl _,λq c=>absurd c (Qzq _),λq _ c=>absurd c (Qzq _)⟩
 | n+1,hr=>by
  obtain⟨i,b⟩:=L5 f n (Gp hr);have j:=b.le;by_cases hi:i=n
  .by_cases hc:ma (z n) h<0
   .exact⟨n+1,Nat.le_refl _,λq c=>by
     by_cases d:q=n
     .subst d;exact hc
     exact b.lo q (by omega),λq e g=>by omega⟩
   refine⟨n,by omega,λq c=>b.lo q (by omega),λq e g => ?_⟩;have:q=n:=by omega
   subst this;omega
  refine⟨i,by omega,b.lo,λq e g => ?_⟩;by_cases d:q=n
  .subst d;have a:=b.hi i nlr (by omega);have l:=(Av (bw hr i (by omega)) f).1;have k:=(Av (bw hr q (by omega)) f).1;have m:=mq hr i q (by omega) (by omega);omega
  exact b.hi q e (by omega)
theorem M9(c:aw n (da z)=false)(e:gy h=true):
  jd n z h<=n/\(∀j,j<jd n z h->ba (z j)<ba h)/\(∀j,jd n z h<=j->j<n->ba h<=ba (z j)):=by
 obtain⟨i,a⟩:=L5 e n c;rw[Oj a];have f:=a.le;refine⟨a.le,λj d => ?_,λj d b => ?_⟩
 .have:=a.lo j d;have:=(Av (bw c j (by omega)) e).1;omega
 have:=a.hi j d b;have:=(Av (bw c j b) e).1;omega
theorem Im{x y:Hd}(hx:gy x=true)(e:gy y=true)(h:ba x=ba y):bj x y.o y.l y.b=true:=by
 have a:=cy hx;have b:=cy e;unfold ba at h;have d:x.o=y.o:=by omega
 have f:x.l=y.l:=by omega
 have c:x.b=y.b:=by omega
 simp[bj,d,f,c]
theorem Ge(c:∀i,i<n->gy (z i)=true)(hs:∀i,i+1<n->ba (z i)<ba (z (i+1))):aw n (da z)=false:=by
 rw[<-Qc];refine cu λj b => ?_;unfold xz;rw[c j b];by_cases a:0<j
 .have:=hs (j-1) (by omega);rw[show j-1+1=j by omega] at this;simp only[Bool.not_true,Bool.false_or,Bool.and_eq_false_imp,decide_eq_true_eq,decide_eq_false_iff_not];intro _;omega
 simp[a]
theorem nl{k:Nat}{o l b:Int}(e:aw n (da z)=false)(a:k<n)(c:bj (z k) o l b=true):keptV n z o l b=(z k).n/\jg n z o l b=k:=by
 have lo:∀j,j<k->bj (z j) o l b=false:=λj f=>by
  cases d:bj (z j) o l b
  .rfl
  have:=Fm d c;have:=mq e j k f a;omega
 exact⟨mm a lo c,Ga a lo c⟩
theorem Tf{o l b:Int}(c:aw n (da z)=false)(d:keptV n z o l b=0):∀j,j<n->bj (z j) o l b=false:=by
 rcases qz n z o l b with h|⟨k,a,f,e⟩
 .exact h
 rw[mm a f e] at d;have:=(cy (bw c k a)).2.2.2;omega
theorem Cp(a:j<i):lx z i h j=z j:=by unfold lx;rw[if_pos a]
theorem Ct:lx z i h i=h:=by unfold lx;rw[if_neg (by omega),if_pos rfl]
theorem Co(a:i<j):lx z i h j=z (j-1):=by unfold lx;rw[if_neg (by omega),if_neg (by omega)]
theorem Cn:qt z i h i=h:=if_pos rfl
theorem Al(a:¬j=i):qt z i h j=z j:=if_neg a
theorem T9{x y:Hd}{o l b:Int}(c:bj x y.o y.l y.b=true):bj x o l b=bj y o l b:=by
 have a:=fi c;unfold bj;rw[a.1,a.2.1,a.2.2]
theorem Z9(d:aw n (da z)=false)(r:gy h=true)(y:keptV n z h.o h.l h.b=0):
  aw (n+1) (da (lx z (jd n z h) h))=false/\(∀o l b,keptV (n+1) (lx z (jd n z h) h) o l b=keptV n z o l b+if bj h o l b then h.n else 0) /\
   jg (n+1) (lx z (jd n z h) h) h.o h.l h.b=jd n z h:=by
 obtain⟨B,x,v⟩:=M9 d r;have no:=Tf d y
 generalize jd n z h=p at B x v ⊢
 have hs:∀j,p<=j->j<n->ba h<ba (z j):=λj w f=>by
  have a:=v j w f;have b:¬ba (z j)=ba h:=λe=>by
   have:=Im (bw d j f) r e;rw[no j f] at this;cases this
  omega
 have g:aw (n+1) (da (lx z p h))=false:=by
  refine Ge (λi hi => ?_) (λi hi => ?_)
  .rcases Nat.lt_trichotomy i p with c|c|c
   .rw[Cp c];exact bw d i (by omega)
   .subst c;rw[Ct];exact r
   rw[Co c];exact bw d (i-1) (by omega)
  rcases Nat.lt_trichotomy i p with c|c|c
  .rw[Cp c];by_cases D:i+1=p
   .subst D;rw[Ct];exact x i (by omega)
   rw[Cp (by omega)];exact zz d i (by omega)
  .subst c;rw[Ct,Co (by omega)];exact hs _ (by omega) (by omega)
  rw[Co c,Co (by omega)];have:=zz d (i-1) (by omega);rw[show i-1+1=i+1-1 by omega] at this;exact this
 have q:=nl (o:=h.o) (l:=h.l) (b:=h.b) g (show p<n+1 by omega) (by rw[Ct];simp[bj]);refine⟨g,λo l b => ?_,q.2⟩;cases u:bj h o l b;rotate_left
 .have a:=fi u;rw[<-a.1,<-a.2.1,<-a.2.2,y,q.1,Ct];simp
 simp only[Bool.false_eq_true,if_false,Int.add_zero];rcases qz n z o l b with s|⟨k,A,E,t⟩
 .rw[kf s];refine kf λj w => ?_;rcases Nat.lt_trichotomy j p with c|c|c
  .rw[Cp c];exact s j (by omega)
  .subst c;rw[Ct];exact u
  rw[Co c];exact s (j-1) (by omega)
 rw[mm A E t];by_cases m:k<p
 .have:=(nl (o:=o) (l:=l) (b:=b) g (show k<n+1 by omega) (by rw[Cp m];exact t)).1;rw[this,Cp m]
 have e:lx z p h (k+1)=z k:=by rw[Co (by omega),Nat.add_sub_cancel]
 have:=(nl (o:=o) (l:=l) (b:=b) g (show k+1<n+1 by omega) (by rw[e];exact t)).1;rw[this,e]
theorem aan(m:aw n (da z)=false)(H:gy h=true)(P:¬keptV n z h.o h.l h.b=0)(U:keptV n z h.o h.l h.b+h.n<=200):
  aw n (da (qt z (jd n z h) ⟨h.o,h.l,h.b,keptV n z h.o h.l h.b+h.n⟩))=false/\(∀o l b,keptV n (qt z (jd n z h) ⟨h.o,h.l,h.b,keptV n z h.o h.l h.b+h.n⟩) o l b=keptV n z o l b+if bj h o l b then h.n else 0) /\
   jg n (qt z (jd n z h) ⟨h.o,h.l,h.b,keptV n z h.o h.l h.b+h.n⟩) h.o h.l h.b=jd n z h/\jd n z h<n/\bj (z (jd n z h)) h.o h.l h.b=true/\jg n z h.o h.l h.b=jd n z h:=by
 obtain⟨Q,L,E⟩:=M9 m H;obtain⟨s,r,x,y,G⟩:=rm m P;have f:ba (z (jg n z h.o h.l h.b))=ba h:=Dt (n:=h.n) r;have F:jg n z h.o h.l h.b=jd n z h:=by
  rcases Nat.lt_trichotomy (jg n z h.o h.l h.b) (jd n z h) with c|c|c
  .have:=L _ c;omega
  .exact c
  have:=y _ c;have:=E _ nlr (by omega);omega
 rw[F] at s r x y G f ⊢
 generalize jd n z h=p at Q L E s r x y G f F ⊢
 generalize hK:keptV n z h.o h.l h.b=K at P U x ⊢
 have V:=cy (bw m p s);have W:=cy H;have u:ba ⟨h.o,h.l,h.b,K+h.n⟩=ba (z p):=by rw[f];rfl
 have B:aw n (da (qt z p ⟨h.o,h.l,h.b,K+h.n⟩))=false:=by
  refine Ge (λi hi => ?_) (λi hi => ?_)
  .by_cases d:i=p
   .subst d;rw[Cn];simp only[gy,Xxx];exact⟨⟨⟨bq (by omega),bq (by omega)⟩,bq (by omega)⟩,bq (by show 1<=K+h.n/\K+h.n<=200;omega)⟩
   rw[Al d];exact bw m i hi
  have q:=zz m i hi;by_cases d:i=p
  .subst d;rw[Cn,Al (by omega),u];exact q
  rw[Al d];by_cases g:i+1=p
  .rw[g,Cn,u,<-g];exact q
  rw[Al g];exact q
 have w:=nl (o:=h.o) (l:=h.l) (b:=h.b) B s (by rw[Cn];simp[bj]);refine⟨B,λo l b => ?_,w.2,s,r,rfl⟩;cases A:bj h o l b
 .simp only[Bool.false_eq_true,if_false,Int.add_zero];have J:bj (z p) o l b=false:=by rw[T9 r];exact A
  rcases qz n z o l b with M|⟨k,D,T,t⟩
  .rw[kf M];refine kf λj S => ?_;by_cases d:j=p
   .subst d;rw[Cn];exact A
   rw[Al d];exact M j S
  rw[mm D T t];have v:¬k=p:=λe=>by subst e;rw[J] at t;cases t
  have:=(nl (o:=o) (l:=l) (b:=b) B D (by rw[Al v];exact t)).1;rw[this,Al v]
 have a:=fi A;rw[<-a.1,<-a.2.1,<-a.2.2,hK,w.1,Cn];simp
theorem Am{y:Nat->Hd}(g:aw n (da z)=false)(v:aw m (da y)=false)(s:∀o l b,keptV n z o l b=keptV m y o l b)(j:Nat)
  (w:∀i,i<j->i<m->i<n/\z i=y i) (h:j<n):j<m/\ba (y j)<=ba (z j):=by
 have a:=(nl g h (uv (z j))).1;have f:=(cy (bw g j h)).2.2.2;rw[s] at a;obtain⟨r,q,t,p,u⟩:=rm (o:=(z j).o) (l:=(z j).l) (b:=(z j).b) v (by omega)
 generalize jg m y (z j).o (z j).l (z j).b=k at r q t p u
 have d:ba (y k)=ba (z j):=Dt (n:=(z j).n) q;have x:j<=k:=by
  rcases Nat.lt_or_ge k j with c|c
  .obtain⟨_,e⟩:=w k c r;have:=mq g k j c h;rw[e] at this;omega
  exact c
 refine⟨by omega,?_⟩;by_cases e:j=k
 .rw[e] at d ⊢;omega
 have:=p j (by omega);omega
theorem aa3{y:Nat->Hd}(g:aw n (da z)=false)(f:aw m (da y)=false)(p:∀o l b,keptV n z o l b=keptV m y o l b):
  ∀k j,j<k->(j<n->j<m/\z j=y j)/\(j<m->j<n/\z j=y j):=by
 intro k
 induction k with
 | zero=>intro j x;omega
 | succ k ih =>
  intro j x;by_cases v:j<k
  .exact ih j v
  have e:j=k:=by omega
  subst e;have q:j<n->j<m->z j=y j:=λs t=>by
   have a:=(Am g f p j (λi hi d=>(ih i hi).2 d) s).2;have b:=(Am f g (λo l b=>(p o l b).symm) j (λi hi d=>⟨((ih i hi).1 d).1,((ih i hi).1 d).2.symm⟩) t).2;have u:=Im (bw g j s) (bw f j t) (by omega);have r:=(nl g s u).1;have w:=(nl f t (uv (y j))).1;rw[p,w] at r;have c:=fi u;cases A:z j;cases B:y j;rw[A,B] at c r;simp only at c r;simp[c,r]
  exact⟨λh=>⟨(Am g f p j (λi hi d=>(ih i hi).2 d) h).1,q h (Am g f p j (λi hi d=>(ih i hi).2 d) h).1⟩,
   λh=>⟨(Am f g (λo l b=>(p o l b).symm) j (λi hi d=>⟨((ih i hi).1 d).1,((ih i hi).1 d).2.symm⟩) h).1,q (Am f g (λo l b=>(p o l b).symm) j (λi hi d=>⟨((ih i hi).1 d).1,((ih i hi).1 d).2.symm⟩) h).1 h⟩⟩
theorem Wa{y:Nat->Hd}(e:aw n (da z)=false)(d:aw m (da y)=false)(a:∀o l b,keptV n z o l b=keptV m y o l b):n=m/\∀j,j<n->z j=y j:=by
 have h:=aa3 e d a;refine⟨?_,λj f=>((h (j+1) j (by omega)).1 f).2⟩;rcases Nat.lt_trichotomy n m with c|c|c
 .have:=((h (n+1) n (by omega)).2 c).1;omega
 .exact c
 have:=((h (m+1) m (by omega)).1 c).1;omega
theorem Zl(f:aw n (da z)=false)(g:gy h=true)(i:keptV n z h.o h.l h.b+h.n<=200):
  aw (pj n z h) (da (xx n z h))=false/\∀o l b,keptV (pj n z h) (xx n z h) o l b=keptV n z o l b+if bj h o l b then h.n else 0:=by
 by_cases c:keptV n z h.o h.l h.b=0
 .have d:pj n z h=n+1:=if_pos c;have e:xx n z h=lx z (jd n z h) h:=if_pos c;rw[d,e];obtain⟨a,b,_⟩:=Z9 f g c;exact⟨a,b⟩
 have d:pj n z h=n:=if_neg c;have e:xx n z h=qt z (jd n z h) ⟨h.o,h.l,h.b,keptV n z h.o h.l h.b+h.n⟩:=if_neg c;rw[d,e];obtain⟨a,b,_⟩:=aan f g c i;exact⟨a,b⟩
theorem Xf(e:addE n z h=0):aw n (da z)=false/\gy h=true/\keptV n z h.o h.l h.b+h.n<=200:=by
 unfold addE at e;by_cases a:h9 n z=0
 .rw[if_pos a] at e;cases c:gy h
  .rw[c] at e;simp at e
  rw[c] at e;simp only[if_true] at e;by_cases d:200<keptV n z h.o h.l h.b+h.n
  .rw[if_pos d] at e;omega
  exact⟨Ef a,rfl,by omega⟩
 rw[if_neg a] at e;exact absurd e a
theorem Af(h:aw n (da z)=false):h9 n z=0:=by unfold h9;rw[h];rfl
theorem S7(a:aw n (da z)=false)(c:gy h=true):addE n z h=if 200<keptV n z h.o h.l h.b+h.n then 3 else 0:=by
 unfold addE;rw[Af a,c]
 rfl
theorem F1{y:Nat->Hd}(h:∀j,j<n->z j=y j):aw n (da z)=aw n (da y):=by
 have e:∀j,j<n->da z j=da y j:=λj a=>by
  unfold da;rw[h j a];by_cases c:0<j
  .rw[h (j-1) (by omega)]
  simp[c]
 cases b:aw n (da y)
 .exact cu λj a=>by rw[e j a];exact dj b j a
 cases d:aw n (da z)
 .have:aw n (da y)=false:=cu λj a=>by rw[<-e j a];exact dj d j a
  rw[this] at b;cases b
 rfl
theorem yb{y:Nat->Hd}(h:∀j,j<n->z j=y j)(o l b:Int):keptV n z o l b=keptV n y o l b:=by
 rcases qz n y o l b with d|⟨k,a,f,e⟩
 .rw[kf d,kf λj c=>by rw[h j c];exact d j c]
 rw[mm a f e,mm a (λj c=>by rw[h j (by omega)];exact f j c) (by rw[h k a];exact e),h k a]
theorem Bb{z y:Nat->Hd}(o l:Int):∀{n:Nat},(∀j,j<n->z j=y j)->keptS z o l n=keptS y o l n
 | 0,_=>rfl
 | n+1,h=>by
  simp only[keptS];rw[Bb o l (n:=n) λj a=>h j (by omega),h n (by omega)]
theorem Dw.right{x:Hs}(hx:Dw n z h x)(e:addE n z h=0):
  aw x.n (da x.z)=false/\∀o l b,keptV x.n x.z o l b=keptV n z o l b+if bj h o l b then h.n else 0:=by
 obtain⟨a,b,c⟩:=Xf e;obtain⟨r,k⟩:=Zl a b c;have f:x.n=pj n z h:=by have:=hx.1;rw[if_pos e] at this;exact this
 have d:=hx.2;rw[f] at d ⊢;exact⟨by rw[F1 d];exact r,λo l b=>by rw[yb d];exact k o l b⟩
theorem Dw.none{x:Hs}(hx:Dw n z h x)(e:¬addE n z h=0):x.n=0:=by
 have:=hx.1;rw[if_neg e] at this;exact this
theorem ka(r:au p s):ah p s=0:=by
 have f:=r.fm;have g:gh s=false:=by
  unfold gh;have a:decide (4<s.os.n)=false:=decide_eq_false (by have:=f.os4;omega);have b:decide (8<s.ms.n)=false:=decide_eq_false (by have:=f.ms8;omega);have d:aw s.os.n (λi=>qd (s.os.z i))=false:=cu λi hi=>by
   unfold qd;rw[bq (by have:=f.lns i hi;omega)]
   rfl
  rw[a,b,d]
  rfl
 have m:jh p s=false:=cu λi hi=>by
  unfold lr;rw[bq (f.kind i hi),cu λj c=>f.line i hi j c]
  rfl
 have h:gu p s=false:=by
  unfold gu;rw[Af f.hold,cu f.home]
  rfl
 have l:j9 p s=false:=cu f.move;have k:∀{r:Rw} {low:Int},r.n=p.ns->(∀j,j<p.ns->low<=r.z j/\r.z j<=1048576)->lu p r low=false:=λ{r low} a b=>by
  unfold lu;rw[Xxq];refine⟨by simp[a],cu λj c => ?_⟩;rw[bq (b j (by omega))]
  rfl
 have e:fo p s=false:=by
  unfold fo;rw[k f.sin f.sib,k f.son f.sob,k f.sfn f.sfb]
  rfl
 rw[Ae f.sh0 g m h l e,show kw p s=false from cu r.goods,show jf s=false from cu r.orders]
 rfl
theorem pe(d:0<=h.o/\h.o.toNat<s.os.n)(c:0<=h.l/\h.l.toNat<(s.os.z h.o.toNat).ls.n)(a:0<=h.b/\h.b<p.nb):i7 p s h=false:=by
 unfold i7;rw[bq (by omega),bq (by omega),bq (by omega)]
 rfl
theorem ri{x s:St}{b g:Int}:∀{k:Nat},(∀j,j<k->x.hs.z j=s.hs.z j)->(∀j,j<k->jo x (s.hs.z j)=jo s (s.hs.z j))->ca x b g k=ca s b g k
 | 0,_,_=>rfl
 | k+1,h1,h2=>by
  simp only[ca];rw[ri (k:=k) (λj a=>h1 j (by omega)) (λj a=>h2 j (by omega)),h1 k (by omega),h2 k (by omega)]
theorem ow{x s:St}{b g:Int}:∀{k:Nat},(∀j,j<k->x.ms.z j=s.ms.z j)->az x b g k=az s b g k
 | 0,_=>rfl
 | k+1,h1=>by
  simp only[az];rw[ow (k:=k) (λj a=>h1 j (by omega)),h1 k (by omega)]
theorem Ig{p:Pl}{x s:St}{b:Int}:∀{k:Nat},(∀j,j<k->x.ms.z j=s.ms.z j)->jj p x b k=jj p s b k
 | 0,_=>rfl
 | k+1,h1=>by
  simp only[jj];rw[Ig (k:=k) (λj a=>h1 j (by omega)),h1 k (by omega)]
section
variable {p:Pl} {x t:St}
theorem ae.held(h:ae x t)(f:cw p t)(b g:Int):ca x b g x.hs.n=ca t b g t.hs.n:=by
 rw[h.hs.1];refine ri (λj a=>h.hs.2 j (by rw[h.hs.1];exact a)) (λj a => ?_);obtain⟨c,d,-⟩:=iu (f.home j a);unfold jo;have o:=h.os.2 (t.hs.z j).o.toNat (by rw[h.os.1];exact c.2);rw[o.2.2 (t.hs.z j).l.toNat (by rw[o.2.1];exact d.2)]
theorem ae.from(h:ae x t)(b g:Int):az x b g x.ms.n=az t b g t.ms.n:=by
 rw[h.ms.1];exact ow λj a=>h.ms.2 j (by rw[h.ms.1];exact a)
theorem ae.num(h:ae x t)(f:cw p t)(d:b<p.nb)(c:g<p.ns):(x.on.r b).z g=(t.on.r b).z g:=by
 have a:b<t.on.n:=by rw[f.sh.n];exact d
 have r:=h.on.2 b (by rw[h.on.1];exact a);exact r.2 g (by rw[r.1,f.sh.len b a];exact c)
theorem ae.avail(h:ae x t)(f:cw p t)(c:b<p.nb)(a:g<p.ns):ar x b g=ar t b g:=by
 unfold ar;rw[h.num f c a,h.held f,h.from]
theorem ae.free(h:ae x t)(f:cw p t)(c:b<p.nb):gj p x b=gj p t b:=by
 unfold gj;have e:ff (x.on.r b).z p.zs p.ns=ff (t.on.r b).z p.zs p.ns:=C1 λj a=>h.num f c a;rw[e,h.ms.1,Ig λj a=>h.ms.2 j (by rw[h.ms.1];exact a)]
theorem ae.formed(h:ae x t)(f:cw p t):cw p x:=by
 have g:=(ts f.sh0).1;have hs:tr p x.on:=⟨f.sh.pl,h.on.1.trans f.sh.n,λi hi=>(h.on.2 i hi).1.trans (f.sh.len i (by rw[<-h.on.1];exact hi)),λi hi j a=>by
  have b:i<t.on.n:=by rw[<-h.on.1];exact hi
  rw[h.num f (by rw[<-f.sh.n];exact b) a];exact f.sh.num i b j a⟩
 have o:∀i,i<x.os.n->i<t.os.n:=λi hi=>by rw[<-h.os.1];exact hi
 refine⟨hs,vw g hs,by rw[h.os.1];exact f.os4,by rw[h.ms.1];exact f.ms8,λi hi=>by rw[(h.os.2 i hi).2.1];exact f.lns i (o i hi),λi hi=>by rw[(h.os.2 i hi).1];exact f.kind i (o i hi),λi hi j a => ?_,?_,λi hi => ?_,λi hi => ?_,h.si.1.trans f.sin,h.so.1.trans f.son,h.sf.1.trans f.sfn,λj a => ?_,λj a => ?_,λj a => ?_⟩
 .rw[(h.os.2 i hi).2.2 j a];exact f.line i (o i hi) j (by rw[<-(h.os.2 i hi).2.1];exact a)
 .rw[h.hs.1,F1 λj a=>h.hs.2 j (by rw[h.hs.1];exact a)];exact f.hold
 .have b:i<t.hs.n:=by rw[<-h.hs.1];exact hi
  obtain⟨e,d,k⟩:=iu (f.home i b);rw[h.hs.2 i hi];have c:(t.hs.z i).o.toNat<x.os.n:=by rw[h.os.1];exact e.2
  exact pe ⟨e.1,c⟩ ⟨d.1,by rw[(h.os.2 _ c).2.1];exact d.2⟩ k
 .rw[h.ms.2 i hi];exact f.move i (by rw[<-h.ms.1];exact hi)
 .rw[h.si.2 j (by rw[h.si.1,f.sin];exact a)];exact f.sib j a
 .rw[h.so.2 j (by rw[h.so.1,f.son];exact a)];exact f.sob j a
 rw[h.sf.2 j (by rw[h.sf.1,f.sfn];exact a)];exact f.sfb j a
theorem ae.right(h:ae x t)(r:au p t):au p x:=by
 have f:=r.fm;refine⟨h.formed f,λg a => ?_,λi hi => ?_⟩
 .have:=r.goods g a;rw[pq] at this ⊢;rw[<-this]
  congr 1
  .have e:cv (λi=>(x.on.r i).z g) x.on.n=cv (λi=>(t.on.r i).z g) t.on.n:=by
    rw[h.on.1];exact rb λi hi=>h.num f (by rw[<-f.sh.n];exact hi) a
   rw[e,h.si.2 g (by rw[h.si.1,f.sin];exact a),h.so.2 g (by rw[h.so.1,f.son];exact a),h.sf.2 g (by rw[h.sf.1,f.sfn];exact a)]
  exact nz λb o=>by rw[h.avail f o a]
 have l:i<t.os.n:=by rw[<-h.os.1];exact hi
 have:=r.orders i l;rw[<-this];obtain⟨m,d,k⟩:=h.os.2 i hi;unfold cg;rw[m,d]
 congr 1
 .congr 2
  exact nz λj c=>by rw[k j (by rw[d];exact c)]
 refine nz λj c => ?_;rw[k j (by rw[d];exact c),h.hs.1,Bb _ _ λj c=>h.hs.2 j (by rw[h.hs.1];exact c)]
end
open Go.Shelf
def frL(p:Pl)(f:Bool)(k:Nat):List Int:=((List.range k).filter (λi=>(p.zb i).front==f)).map Int.ofNat
theorem uy{f:Bool}{k:Nat}(h:(p.zb k).front=f):frL p f (k+1)=frL p f k++[(k:Int)]:=by simp[frL,List.range_succ,h]
theorem vo{f:Bool}{k:Nat}(h:¬(p.zb k).front=f):frL p f (k+1)=frL p f k:=by simp[frL,List.range_succ,h]
theorem Jc(p:Pl)(f:Bool)(k:Nat):(frL p f k).length<=k:=by
 unfold frL;rw[List.length_map];exact Qzx (List.length_filter_le _ _) (by simp)
def fw(p:Pl):List Int:=frL p true p.nb++frL p false p.nb
theorem Rw.ofOwns{base:Nat}{a:List Int}(h:w.ownsRow base 3 1 v a.length (a.map (Value.int .i64))):∃r:Rw,v=r.val/\r.At w/\r.n=a.length/\∀j,j<r.n->r.z j=a.getD j 0:=by
 by_cases k:v = .slice Option.none 0 0
 .subst k;have f:a.length=0:=by
   rcases h.2 with⟨_,f⟩|⟨t,q,o,e,_⟩
   .exact f
   cases e
  exact⟨⟨Option.none,0,0,λ_=>0⟩,rfl,⟨Nat.le_refl _,Qxz _,λi hi=>absurd hi (Qzq _)⟩,f.symm,λj l=>absurd l (Qzq _)⟩
 obtain⟨g,c,rfl,m,p,s,d⟩:=Blk.ofOwns h k;rw[Nat.mul_one] at d;refine⟨⟨some ⟨g,0,Option.none⟩,a.length,c,λj=>a.getD j 0⟩,rfl,⟨m,p,λi hi => ?_⟩,rfl,λj _=>rfl⟩;have b:i<a.length:=hi;refine⟨g,0,rfl,d.lt,?_⟩;have:=d.cell (j:=i) b;rw[Nat.zero_add,this];simp[List.getD,b]
theorem Rs(p:Pl)(w:World)(X:p.At w)(hn:p.nb<=6):
  Calls prog 142 #[p.val] w λe w'=>∃v,e = .returned v/\w'.ownsRow w.heap.size 3 1 v (fw p).length ((fw p).map (Value.int .i64))/\Below w.heap.size w w':=by
 have leb:=X.leb;have capb:=X.capb;unfold maxLen at capb;have F:∃a,w.alloc (.cells #[.slice p.ab p.nb p.cb,.slice p.sa p.ns p.cs] 25)=a/\Below w.heap.size w a/\a.heap.size=w.heap.size+1/\∀t,Below a.heap.size a t->t.cell? ⟨w.heap.size,0,Option.none⟩=some (.slice p.ab p.nb p.cb)/\w.heap.size<t.heap.size :=
  ⟨_,rfl,(Below.refl w.heap.size w).alloc nlr _,by simp,λt h=>⟨(h.cell (p:=⟨w.heap.size,0,Option.none⟩) (by simp)).trans (by simp),by have:=h.size;simp at this;omega⟩⟩
 obtain⟨a,hW,B,H,z⟩:=F;have HW:Hid (w.alloc (.cells #[.slice p.ab p.nb p.cb,.slice p.sa p.ns p.cs] 25)=a):=hW;have HC:=hid z;have HP:Hid (∀t,Below a.heap.size a t->p.At t):=λt h=>(X.below B).below h;have HZ:=hid H;clear hW z H;obtain⟨i1,l,U,T,S⟩:=info_parts Ep;simp only[Pl.val];go_enter func142,ntmps142;go_wp2_with fail;rw[HW.out]
 go_loopw [3,4] (λv i G=>∃k:Nat,k<=p.nb/\i = .int .i64 k/\G.ownsRow a.heap.size 3 1 v (frL p true k).length ((frL p true k).map (Value.int .i64))/\Below a.heap.size a G) (λ_ i _=>p.nb-(intOf i).toNat)
 case atStart=>exact⟨0,Qxz _,rfl,World.ownsRow_nil _ _ _ _,Below.refl _ _⟩
 obtain⟨k,Y,rfl,K,c⟩:=hrel;obtain⟨Q,P⟩:=HC.out _ c;have n:=hid K;clear K;by_cases A:k<p.nb
 .obtain⟨b,o,x,hb,J,z1,z2,z3⟩:=(HP.out _ c).bins k A;rw[x] at Q;clear x;have m1:(0:Int)<=(k:Int):=by omega
  cases s:(p.zb k).front
  .rw[s] at J;go_wp2_with fail;go_roundw
   case rel=>exact⟨k+1,by omega,by go_num,by rw[vo (by rw[s];decide)];exact n.out,c⟩
   case measure=>simp[intOf];omega
  rw[s] at J;have ae:=Jc p true k;go_wp2_with(at_builtin;refine wpList_append_own _ rfl (.tmp 19) (.tmp 21) 23 rfl a.heap.size 3 i1 (.int .i64 0) 1 8 underlying23 l U T S rfl (by decide) _ _ _ rfl (n.out.alloc _) ⟨wr.heap.size,0,Option.none⟩ 1 1 [.int .i64 k] rfl rfl ?c1 ?c2 ?c3 ?c4 ?c5 ?_)
  case c1 =>
   intro j u l
   match j,l with
   | 0,l=>simp at l;subst l;simp[Addr.add]
  case c2=>intro u E;simp at E;subst E;rfl
  case c3=>unfold maxLen;omega
  case c4=>omega
  case c5=>have:=c.size;simp;omega
  intro M y f d r;have m:=n.out.lt;have L:Below a.heap.size a y:=(c.alloc (by have:=c.size;omega) _).grown d (by have:=c.size;simp;omega) (λq W=>(m q W).1);have V:Hid (y.ownsRow a.heap.size 3 1 M (frL p true (k+1)).length ((frL p true (k+1)).map (Value.int .i64))):=by
   show y.ownsRow a.heap.size 3 1 M (frL p true (k+1)).length ((frL p true (k+1)).map (Value.int .i64));rw[uy s]
   simpa using f
  clear f d r m;go_wp2_with fail;go_roundw
  case rel=>exact⟨k+1,by omega,by go_num,V.out,L⟩
  case measure=>simp[intOf];omega
 have D:k=p.nb:=by omega
 subst D;go_wp2_with fail
 go_loopw [3,5] (λv i G=>∃k:Nat,k<=p.nb/\i = .int .i64 k/\G.ownsRow a.heap.size 3 1 v (frL p true p.nb++frL p false k).length ((frL p true p.nb++frL p false k).map (Value.int .i64))/\Below a.heap.size a G) (λ_ i _=>p.nb-(intOf i).toNat)
 case atStart=>exact⟨0,Qxz _,rfl,by simpa[frL] using n.out,c⟩
 clear n c Q P Y A;obtain⟨k,Y,rfl,K,c⟩:=hrel;obtain⟨Q,P⟩:=HC.out _ c;have n:=hid K;clear K;by_cases A:k<p.nb;rotate_left
 .go_wp2_with fail;go_ret;have D:k=p.nb:=by omega
  subst D;exact⟨_,rfl,⟨n.out.1,n.out.2.imp_right λ⟨g,cap,cur,h1,h2,h3⟩=>⟨g,cap,cur,h1,Qzx B.size h2,h3⟩⟩,B.trans (c.mono B.size)⟩
 obtain⟨b,o,x,hb,J,z1,z2,z3⟩:=(HP.out _ c).bins k A;rw[x] at Q;clear x;have m1:(0:Int)<=(k:Int):=by omega
 cases s:(p.zb k).front;rotate_left
 .rw[s] at J;go_wp2_with fail;go_roundw
  case rel=>exact⟨k+1,by omega,by go_num,by rw[vo (by rw[s];decide)];exact n.out,c⟩
  case measure=>simp[intOf];omega
 rw[s] at J;have ae:=Jc p false k;have ak:=Jc p true p.nb;go_wp2_with(at_builtin;refine wpList_append_own _ rfl (.tmp 37) (.tmp 39) 23 rfl a.heap.size 3 i1 (.int .i64 0) 1 8 underlying23 l U T S rfl (by decide) _ _ _ rfl (n.out.alloc _) ⟨wr.heap.size,0,Option.none⟩ 1 1 [.int .i64 k] rfl rfl ?c1 ?c2 ?c3 ?c4 ?c5 ?_)
 case c1 =>
  intro j u l
  match j,l with
  | 0,l=>simp at l;subst l;simp[Addr.add]
 case c2=>intro u E;simp at E;subst E;rfl
 case c3=>rw[List.length_append];unfold maxLen;omega
 case c4=>rw[List.length_append];omega
 case c5=>have:=c.size;simp;omega
 intro M y f d r;have m:=n.out.lt;have L:Below a.heap.size a y:=(c.alloc (by have:=c.size;omega) _).grown d (by have:=c.size;simp;omega) (λq W=>(m q W).1);have V:Hid (y.ownsRow a.heap.size 3 1 M (frL p true p.nb++frL p false (k+1)).length ((frL p true p.nb++frL p false (k+1)).map (Value.int .i64))):=by
  show y.ownsRow a.heap.size 3 1 M (frL p true p.nb++frL p false (k+1)).length ((frL p true p.nb++frL p false (k+1)).map (Value.int .i64));rw[uy s]
  simpa[Nat.add_assoc] using f
 clear f d r m;go_wp2_with fail;go_roundw
 case rel=>exact⟨k+1,by omega,by go_num,V.out,L⟩
 case measure=>simp[intOf];omega
def Rj(p:Pl)(x:Int):Bool:=(p.zb x.toNat).front
theorem xp{f:Bool}{k:Nat}{x:Int}(h:x∈frL p f k):0<=x/\x<k/\Rj p x=f:=by
 simp only[frL,List.mem_map,List.mem_filter,List.mem_range,beq_iff_eq] at h;obtain⟨i,⟨hi,a⟩,rfl⟩:=h;exact⟨Int.natCast_nonneg _,by simp only[Int.ofNat_eq_natCast];omega,a⟩
theorem L6(p:Pl)(f:Bool):∀k,(frL p f k).Pairwise (· < ·)
 | 0=>by simp[frL]
 | k+1=>by
  by_cases h:(p.zb k).front=f
  .rw[uy h,List.pairwise_append];refine⟨L6 p f k,List.pairwise_singleton _ _,λx hx y a => ?_⟩;rw[List.mem_singleton] at a;have:=(xp hx).2.1;omega
  rw[vo h];exact L6 p f k
theorem Nf(p:Pl):∀k,(frL p true k).length+(frL p false k).length=k
 | 0=>by simp[frL]
 | k+1=>by
  have a:=Nf p k;cases h:(p.zb k).front
  .rw[uy h,vo (by rw[h];decide),List.length_append,List.length_singleton];omega
  rw[uy h,vo (by rw[h];decide),List.length_append,List.length_singleton];omega
theorem S8(p:Pl):(fw p).length=p.nb:=by
 unfold fw;rw[List.length_append,Nf]
theorem Fb{x:Int}(h:x∈fw p):0<=x/\x<p.nb:=by
 unfold fw at h;rw[List.mem_append] at h;rcases h with h|h
 .exact⟨(xp h).1,(xp h).2.1⟩
 exact⟨(xp h).1,(xp h).2.1⟩
theorem P2(p:Pl):(fw p).Pairwise (λx y=>¬x=y/\(Rj p y=true->Rj p x=true)/\(Rj p x=Rj p y->x<y)):=by
 unfold fw;rw[List.pairwise_append];refine⟨?_,?_,λx hx y c => ?_⟩
 .refine List.Pairwise.imp_of_mem ?_ (L6 p true p.nb);intro x y hx c h;exact⟨by omega,λ_=>(xp hx).2.2,λ_=>h⟩
 .refine List.Pairwise.imp_of_mem ?_ (L6 p false p.nb);intro x y hx c h;refine⟨by omega,λe => ?_,λ_=>h⟩;rw[(xp c).2.2] at e;cases e
 have a:=(xp hx).2.2;have b:=(xp c).2.2;refine⟨λe => ?_,λe=>a,λe => ?_⟩
 .rw[e,b] at a;cases a
 rw[a,b] at e;cases e
def Vq(p:Pl):List Int:=if iz p=0 then fw p else []
theorem P8(h:iz p=0):Vq p=fw p:=if_pos h
theorem aah(h:¬iz p=0):Vq p=[]:=if_neg h
theorem X5{size:Nat}{a:List Value}(h:w.ownsRow A e size v n a)(c:b<=A):w.ownsRow b e size v n a :=
 ⟨h.1,h.2.imp_right λ⟨g,cap,cur,h1,h2,h3⟩=>⟨g,cap,cur,h1,Qzx c h2,h3⟩⟩
open Go.Sort
def bp(s:St)(b g:Int):Nat->Int
 | 0=>0
 | k+1=>bp s b g k+(if (s.ms.z k).b=b/\(s.ms.z k).o=g then(s.ms.z k).n else 0)
theorem Dd{b g:Int}{k:Nat}(c:(s.ms.z k).b=b)(a:(s.ms.z k).o=g):bp s b g (k+1)=bp s b g k+(s.ms.z k).n:=by simp only[bp];rw[if_pos ⟨c,a⟩]
theorem yu{b g:Int}{k:Nat}(h:¬((s.ms.z k).b=b/\(s.ms.z k).o=g)):bp s b g (k+1)=bp s b g k:=by simp only[bp];rw[if_neg h,Int.add_zero]
theorem lj{s:St}{b g:Int}:∀{n:Nat},(∀j,j<n->1<=(s.ms.z j).n/\(s.ms.z j).n<=200)->0<=bp s b g n/\bp s b g n<=200*n
 | 0,_=>by simp[bp]
 | n+1,h=>by
  have c:=lj (b:=b) (g:=g) (n:=n) λj a=>h j (by omega);have:=h n (by omega);simp only[bp]
  split<;>omega
theorem Jy{z z' zs:Nat->Int}{m:Nat}{d:Int}:∀{n:Nat},(∀j,j<n->z' j=z j+if j=m then d else 0)->ff z' zs n=ff z zs n+if m<n then d*zs m else 0
 | 0,_=>by simp[ff]
 | n+1,h=>by
  simp only[ff];rw[Jy (m:=m) (d:=d) (n:=n) λj c=>h j (by omega),h n (by omega)];by_cases a:n=m
  .subst a;rw[if_pos rfl,if_neg (Nat.lt_irrefl n),if_pos (by omega),Int.add_mul];omega
  rw[if_neg a,Int.add_zero];by_cases b:m<n
  .rw[if_pos b,if_pos (by omega)];omega
  rw[if_neg b,if_neg (by omega)];omega
theorem Nn{p:Pl}{s:St}(f:cw p s)(b:Int):∀n,n<=s.ms.n->ff (λg=>bp s b g n) p.zs p.ns=jj p s b n
 | 0,_=>usedTo_zero' λj e=>rfl
 | n+1,hn=>by
  have i:=qs (f.move n (by omega));by_cases c:(s.ms.z n).b=b
  .rw[L8 c,<-Nn f b n (by omega),Jy (z:=λg=>bp s b g n) (m:=(s.ms.z n).o.toNat) (d:=(s.ms.z n).n) λj e => ?_,if_pos (by omega)];by_cases a:j=(s.ms.z n).o.toNat
   .rw[if_pos a];exact Dd c (by omega)
   rw[if_neg a,Int.add_zero];exact yu (λh=>a (by omega))
  rw[Jk c,<-Nn f b n (by omega)];exact C1 λj e=>yu (λh=>c h.1)
where
 usedTo_zero' {z zs:Nat->Int}:∀{n:Nat},(∀j,j<n->z j=0)->ff z zs n=0
  | 0,_=>rfl
  | n+1,h=>by simp only[ff];rw[usedTo_zero' (n:=n) λj hj=>h j (by omega),h n (by omega)];simp
theorem S0{a b:Int}(c:0<=a/\a<=1600)(d:1<=b/\b<=9):0<=a*b/\a*b<=14400:=by
 obtain⟨e,a1⟩:=c;have:b=1\/b=2\/b=3\/b=4\/b=5\/b=6\/b=7\/b=8\/b=9:=by omega
 rcases this with rfl|rfl|rfl|rfl|rfl|rfl|rfl|rfl|rfl<;>omega
theorem Mh{z zs:Nat->Int}{n:Nat}(h:∀j,j<n->(0<=z j/\z j<=1600)/\1<=zs j/\zs j<=9):∀k,k<=n->0<=ff z zs k/\ff z zs k<=14400*k
 | 0,_=>by simp[ff]
 | k+1,hk=>by
  have a:=Mh h k (by omega);have:=S0 (h k (by omega)).1 (h k (by omega)).2;simp only[ff];omega
theorem Cf(p:Pl)(s:St)(bin good:Nat)(w:World)(hs:s.At w)(f:cw p s):
  Calls prog 84 #[s.val,.int .i64 bin,.int .i64 good] w λe P=>e = .returned (.int .i64 (bp s bin good s.ms.n))/\Below w.heap.size w P:=by
 obtain⟨d,E,y,F⟩:∃d,w.alloc (.cells s.cells 31)=d/\Below w.heap.size w d/\Blk d w.heap.size 31 7 (λj=>s.cells.getD j default):=⟨_,rfl,(Below.refl w.heap.size w).alloc nlr _,Blk.mk' rfl rfl⟩;have t:=hs.below y;have T:Hid (∀l,Below d.heap.size d l->s.At l/\l.cell? ⟨w.heap.size,3,none⟩=some (.slice s.ms.a s.ms.n s.ms.c)/\w.heap.size<l.heap.size):=
  λl h=>⟨t.below h,(F.below h).k 3,(F.below h).lt⟩
 have L:=t.ms.le;have A:=t.ms.cap;unfold maxLen at A;have X:=f.ms8;have V:Hid (∀k,k<=s.ms.n->0<=bp s bin good k/\bp s bin good k<=200*k):=λk G=>lj λj hj=>f.moveN j (by omega);have M:Hid (w.alloc (.cells #[.slice s.on.a s.on.n s.on.c,.slice s.os.a s.os.n s.os.c,.slice s.hs.a s.hs.n s.hs.c,.slice s.ms.a s.ms.n s.ms.c,.slice s.si.a s.si.n s.si.c,.slice s.so.a s.so.n s.so.c,.slice s.sf.a s.sf.n s.sf.c] 31)=d):=E;simp only[St.val];clear F E;go_enter func84,ntmps84;go_wp2_with fail;rw[M.out]
 go_loopw [7,8] (λu i l=>∃k:Nat,k<=s.ms.n/\i = .int .i64 k/\u = .int .i64 (bp s bin good k)/\Below d.heap.size d l) (λ_ i _=>s.ms.n-(intOf i).toNat)
 case atStart=>exact⟨0,Qxz _,rfl,by simp[bp],Below.refl _ _⟩
 obtain⟨k,G,rfl,rfl,r⟩:=hrel;have m2:=V.out k G;obtain⟨D,c3,W⟩:=T.out wr r;by_cases x:k<s.ms.n;rotate_left
 .have H:k=s.ms.n:=by omega
  subst H;go_wp2_with fail;go_ret;exact⟨rfl,y.trans (r.mono y.size)⟩
 obtain⟨b,q,B,hb,z0,z1,z2,z3⟩:=D.ms.hds k x;have m3:=f.moveN k x;have m:Hid (((s.ms.z k).b=bin/\(s.ms.z k).o=good->bp s bin good (k+1)=bp s bin good k+(s.ms.z k).n)/\(¬((s.ms.z k).b=bin/\(s.ms.z k).o=good)->bp s bin good (k+1)=bp s bin good k)):=⟨λh=>Dd h.1 h.2,yu⟩;have Y:(0:Int)<=(k:Int):=by omega
 rw[B] at c3;clear B D
 generalize bp s bin good k=U at *
 generalize (s.ms.z k).b=S at *
 generalize (s.ms.z k).n=NN at *
 generalize (s.ms.z k).o=Q at *
 cases J:(S==(bin:Int))
 .have g:=m.out.2 (by simp at J;omega);have v:=hid g;clear g m;go_wp2_with fail;go_roundw
  case rel=>exact⟨k+1,by omega,by go_num,by rw[v.out],r⟩
  case measure=>simp[intOf];omega
 cases K:(Q==(good:Int))
 .have g:=m.out.2 (by simp at K;omega);have v:=hid g;clear g m;go_wp2_with fail;go_roundw
  case rel=>exact⟨k+1,by omega,by go_num,by rw[v.out],r⟩
  case measure=>simp[intOf];omega
 have g:=m.out.1 ⟨by simpa using J,by simpa using K⟩;have v:=hid g;clear g m;go_wp2_with fail;go_roundw
 case rel=>exact⟨k+1,by omega,by go_num,by rw[v.out],r⟩
 case measure=>simp[intOf];omega
theorem Jm(p:Pl)(s:St)(bin good:Nat)(w:World)(hs:s.At w)(f:cw p s)(L:bin<p.nb)(A:good<p.ns):
  Calls prog 89 #[s.val,.int .i64 bin,.int .i64 good] w λe H=>e = .returned (.int .i64 (ar s bin good))/\Below w.heap.size w H:=by
 obtain⟨o,B,v,l⟩:∃o,w.alloc (.cells s.cells 31)=o/\Below w.heap.size w o/\Blk o w.heap.size 31 7 (λj=>s.cells.getD j default):=⟨_,rfl,(Below.refl w.heap.size w).alloc nlr _,Blk.mk' rfl rfl⟩;have i:=hs.below v;have u:bin<s.on.n:=by rw[f.sh.n];exact L
 obtain⟨T,S,m,ad,J,d⟩:=i.on.rows bin u;have t:=f.sh.len bin u;have V:=f.sh.num bin u good A;obtain⟨br,ag,D,af,M⟩:=d.ints good (by omega);have F:=d.le;have x:=d.cap;have aa:=i.on.le;have y:=i.on.cap;unfold maxLen at x y;rw[D,t] at J;rw[t] at F;have ae:=f.hs72;have m8:=f.ms8;have Y:=mt (s:=s) (b:=bin) (g:=good) f.holdN;have W:=jr (s:=s) (b:=bin) (g:=good) f.moveN;have G:o.cell? ⟨w.heap.size,0,none⟩=some (.slice s.on.a s.on.n s.on.c):=l.k 0;rw[m] at G;have E:=qa2 i m;have r0:=Qqq G;have r1:=Qqq (l.k 1);have r2:=Qqq (l.k 2);have r3:=Qqq (l.k 3);have r4:=Qqq (l.k 4);have r5:=Qqq (l.k 5);have r6:=Qqq (l.k 6);have r7:=Qqq J;have r8:=Qqq M;have P:Hid (∀q,s.At q->Calls prog 90 #[.agg #[.slice (some ⟨T,S,none⟩) s.on.n s.on.c,.slice s.os.a s.os.n s.os.c,.slice s.hs.a s.hs.n s.hs.c,.slice s.ms.a s.ms.n s.ms.c,.slice s.si.a s.si.n s.si.c,.slice s.so.a s.so.n s.so.c,.slice s.sf.a s.sf.n s.sf.c],.int .i64 bin,.int .i64 good] q λe H=>e = .returned (.int .i64 (ca s bin good s.hs.n+az s bin good s.ms.n))/\Below q.heap.size q H):=λq h=>by
  have:=Hk p s bin good q h f;rw[St.val,E.out.2] at this;exact this
 have X:Hid (ar s bin good=(s.on.r bin).z good-(ca s bin good s.hs.n+az s bin good s.ms.n)):=by show ar s bin good=_;unfold ar;omega
 have U:Hid (w.alloc (.cells #[.slice (some ⟨T,S,none⟩) s.on.n s.on.c,.slice s.os.a s.os.n s.os.c,.slice s.hs.a s.hs.n s.hs.c,.slice s.ms.a s.ms.n s.ms.c,.slice s.si.a s.si.n s.si.c,.slice s.so.a s.so.n s.so.c,.slice s.sf.a s.sf.n s.sf.c] 31)=o):=by show _=o;rw[<-B,St.cells,m]
 have q1:(0:Int)<=(bin:Int):=by omega
 have q2:(0:Int)<=(good:Int):=by omega
 simp only[St.val,m];clear l B d t m D i G J M f hs
 generalize ar s bin good=AV at *
 have ac:0<=ca s bin good s.hs.n+az s bin good s.ms.n/\ca s bin good s.hs.n+az s bin good s.ms.n<=16000:=by omega
 clear Y W
 generalize ca s bin good s.hs.n+az s bin good s.ms.n=BD at *
 generalize (s.on.r bin).z good=ON at *
 generalize (s.on.r bin).c=RC at *
 go_enter func89,ntmps89;go_wp2_with fail;rw[U.out];refine Qxq (by kernel_rfl) (by kernel_rfl) ?_
 repeat(go_big_quiet_step((go_at_call 90;exact Xxz (P.out _ (E.out.1.below (Qxx _ _ _))))))
 refine Qqz ?_;intro _ Q;obtain⟨⟨dq,ab⟩,K⟩:=Q;subst K;go_wp2_with fail;go_ret;exact⟨by rw[X.out];rfl,v.trans ((Qxx _ _ _).mono v.size)⟩
theorem Mm(p:Pl)(s:St)(bin:Nat)(w:World)(y:p.At w)(hs:s.At w)(f:cw p s)(q:bin<p.nb):
  Calls prog 83 #[p.val,s.val,.int .i64 bin] w λe G=>e = .returned (.int .i64 (gj p s bin))/\Below w.heap.size w G:=by
 obtain⟨L,hW,ao,X0⟩:=G9 w p s;have HC:=F8 y hs ao X0;have HW:=hid hW;have E:=hid f;have leb:=y.leb;have capb:=y.capb;have les:=y.les;have caps:=y.caps;unfold maxLen at capb caps;have ns3:=f.sh.pl.ns3;have ms8:=f.ms8;have P:bin<s.on.n:=by rw[f.sh.n];exact q
 have ub:=vt (z:=(s.on.r bin).z) (zs:=p.zs) (n:=p.ns) (λj M=>⟨f.sh.num bin P j M,f.sh.pl.sizes j M⟩) p.ns nlr;have room:0<=(p.zb bin).room/\(p.zb bin).room<=1000:=by
  have:=f.sh.pl.bins bin q;simp only[qe,Xxq,Bool.not_eq_false'] at this;exact aq this.1.1
 have HU:Hid (∀k,k<=p.ns->0<=ff (λg=>bp s bin g s.ms.n) p.zs k/\ff (λg=>bp s bin g s.ms.n) p.zs k<=14400*k):=λk hk=>Mh (n:=p.ns) (λj M=>⟨by have:=lj (s:=s) (b:=bin) (g:=j) f.moveN;omega,f.sh.pl.sizes j M⟩) k hk;have HE:Hid (gj p s bin=(p.zb bin).room-ff (s.on.r bin).z p.zs p.ns-ff (λg=>bp s bin g s.ms.n) p.zs p.ns):=by show gj p s bin=_;rw[Nn f bin s.ms.n nlr];rfl
 have q1:(0:Int)<=(bin:Int):=by omega
 clear hW X0 y hs f;unfold Pl.val St.val;go_enter func83,ntmps83;go_wp2_with fail;rw[HW.out];obtain⟨X,l,m,D⟩:=HC.out L brf;obtain⟨⟨l1,A,F⟩,l2,v,c1,c2,c3,c4,c5,c6⟩:=X;obtain⟨bb,bo,H,al,y0,y1,y2,y3⟩:=l.bins bin q;have t:=qa3 m.on l H;rw[H] at A;have V:=Qqq A;have Y:=Qqq F;have T:=Qqq v;have S:=Qqq y1;have Q:Hid (∀d,p.At d->s.on.At d->Calls prog 140 #[.agg #[.slice (some ⟨bb,bo,none⟩) p.nb p.cb,.slice p.sa p.ns p.cs],.slice s.on.a s.on.n s.on.c,.int .i64 bin] d λe G=>e = .returned (.int .i64 (ff (s.on.r bin).z p.zs p.ns))/\Below d.heap.size d G):=λd h1 h2=>by
  have:=T4 p s.on bin d h1 h2 E.out.sh P;rw[Pl.val,t.out.2.2] at this;exact this
 clear H l m A F v c1 c2 c3 c4 c5 c6 y0 y1 y2 y3 HW
 generalize ff (s.on.r bin).z p.zs p.ns=US at *
 generalize (p.zb bin).room=RM at *
 refine Qxq (by kernel_rfl) (by kernel_rfl) ?_
 repeat(go_big_quiet_step((go_at_call 140;exact Xxz (Q.out _ (t.out.2.1.below (Qxx _ _ _)) (t.out.1.below (Qxx _ _ _))))))
 refine Qqz ?_;intro _ J;obtain⟨⟨U,B⟩,o⟩:=J;subst o;have x:=Qxx L U B;clear V Y T S Q t D l1 l2 al
 generalize grow (redrawn L U) B=wz at *
 go_wp2_with fail
 go_loopw [7,8] (λu i d=>∃k:Nat,k<=p.ns/\i = .int .i64 k/\u = .int .i64 (RM-US-ff (λg=>bp s bin g s.ms.n) p.zs k)/\Below L.heap.size L d) (λ_ i _=>p.ns-(intOf i).toNat)
 case atStart=>exact⟨0,Qxz _,rfl,by simp[ff],x⟩
 clear x;obtain⟨g,hg,rfl,rfl,x⟩:=hrel;have ug:=HU.out g hg;obtain⟨X,l,m,D⟩:=HC.out wr x;obtain⟨⟨l1,A,F⟩,l2,v,c1,c2,c3,c4,c5,c6⟩:=X;by_cases K:g<p.ns;rotate_left
 .have ak:g=p.ns:=by omega
  subst ak;clear l m v c1 c2 c3 c4 c5 c6;go_wp2_with fail;go_ret;exact⟨by rw[HE.out];rfl,D⟩
 obtain⟨b1,o1,e1,g1,z1⟩:=l.sizes g K;have qg:(0:Int)<=(g:Int):=by omega
 have ad:=lj (s:=s) (b:=bin) (g:=g) E.out.moveN;have W:0<=bp s bin g s.ms.n/\bp s bin g s.ms.n<=1600:=by omega
 have bd:=S0 W (E.out.sh.pl.sizes g K);have ai:Hid (ff (λg=>bp s bin g s.ms.n) p.zs (g+1)=ff (λg=>bp s bin g s.ms.n) p.zs g+bp s bin g s.ms.n*p.zs g):=rfl;rw[e1] at F;have an:=hid m;have V:=Qqq v;have Y:=Qqq c1;have T:=Qqq c2;have S:=Qqq c3;have r4:=Qqq c4;have r5:=Qqq c5;have r6:=Qqq c6;have r7:=Qqq F;have r8:=Qqq z1;have aa:Hid (∀d,s.At d->Calls prog 84 #[.agg #[.slice s.on.a s.on.n s.on.c,.slice s.os.a s.os.n s.os.c,.slice s.hs.a s.hs.n s.hs.c,.slice s.ms.a s.ms.n s.ms.c,.slice s.si.a s.si.n s.si.c,.slice s.so.a s.so.n s.so.c,.slice s.sf.a s.sf.n s.sf.c],.int .i64 bin,.int .i64 g] d λe G=>e = .returned (.int .i64 (bp s bin g s.ms.n))/\Below d.heap.size d G):=λd h=>Cf p s bin g d h E.out;have pz:=E.out.sh.pl.sizes g K;clear e1 l m A v c1 c2 c3 c4 c5 c6 z1 ad
 generalize ff (λg=>bp s bin g s.ms.n) p.zs g=U0 at *
 generalize bp s bin g s.ms.n=CM at *
 generalize p.zs g=PZ at *
 go_wp2_with fail;refine Qxq (by kernel_rfl) (by kernel_rfl) ?_
 repeat(go_big_quiet_step((go_at_call 84;exact Xxz (aa.out _ (an.out.below (Qxx _ _ _))))))
 refine Qqz ?_;intro _ J;obtain⟨⟨U,B⟩,o⟩:=J;subst o;clear V Y T S r4 r5 r6 r7 r8;go_wp2_with fail;go_roundw
 case rel=>exact⟨g+1,by omega,by go_num,by rw[ai.out,Int.sub_sub _ U0],x.trans ((Qxx _ _ _).mono x.size)⟩
 case measure=>simp[intOf];omega
theorem ae.symm{t:St}(h:ae s t):ae t s:=by
 refine⟨⟨h.on.1.symm,λi hi => ?_⟩,⟨h.os.1.symm,λi hi => ?_⟩,⟨h.hs.1.symm,λj a=>(h.hs.2 j (by rw[h.hs.1];exact a)).symm⟩,⟨h.ms.1.symm,λj a=>(h.ms.2 j (by rw[h.ms.1];exact a)).symm⟩,⟨h.si.1.symm,λj a=>(h.si.2 j (by rw[h.si.1];exact a)).symm⟩,⟨h.so.1.symm,λj a=>(h.so.2 j (by rw[h.so.1];exact a)).symm⟩,⟨h.sf.1.symm,λj a=>(h.sf.2 j (by rw[h.sf.1];exact a)).symm⟩⟩
 .have x:=h.on.2 i (by rw[h.on.1];exact hi);exact⟨x.1.symm,λj a=>(x.2 j (by rw[x.1];exact a)).symm⟩
 have x:=h.os.2 i (by rw[h.os.1];exact hi);exact⟨x.1.symm,x.2.1.symm,λj a=>(x.2.2 j (by rw[x.2.1];exact a)).symm⟩
theorem ae.trans{t u:St}(h:ae s t)(k:ae t u):ae s u:=by
 refine⟨⟨h.on.1.trans k.on.1,λi hi => ?_⟩,⟨h.os.1.trans k.os.1,λi hi => ?_⟩,⟨h.hs.1.trans k.hs.1,λj a=>(h.hs.2 j a).trans (k.hs.2 j (by rw[<-h.hs.1];exact a))⟩,⟨h.ms.1.trans k.ms.1,λj a=>(h.ms.2 j a).trans (k.ms.2 j (by rw[<-h.ms.1];exact a))⟩,⟨h.si.1.trans k.si.1,λj a=>(h.si.2 j a).trans (k.si.2 j (by rw[<-h.si.1];exact a))⟩,⟨h.so.1.trans k.so.1,λj a=>(h.so.2 j a).trans (k.so.2 j (by rw[<-h.so.1];exact a))⟩,⟨h.sf.1.trans k.sf.1,λj a=>(h.sf.2 j a).trans (k.sf.2 j (by rw[<-h.sf.1];exact a))⟩⟩
 .have x:=h.on.2 i hi;have y:=k.on.2 i (by rw[<-h.on.1];exact hi);exact⟨x.1.trans y.1,λj a=>(x.2 j a).trans (y.2 j (by rw[<-x.1];exact a))⟩
 have x:=h.os.2 i hi;have y:=k.os.2 i (by rw[<-h.os.1];exact hi);exact⟨x.1.trans y.1,x.2.1.trans y.2.1,λj a=>(x.2.2 j a).trans (y.2.2 j (by rw[<-x.2.1];exact a))⟩
def ku(r:Rw)(j:Nat)(x:Int):Rw:=⟨r.a,r.n,r.c,λi=>if i=j then x else r.z i⟩
def setOn(s:St)(b g:Nat)(x:Int):St:=⟨⟨s.on.a,s.on.n,s.on.c,λi=>if i=b then ku (s.on.r i) g x else s.on.r i⟩,s.os,s.hs,s.ms,s.si,s.so,s.sf⟩
def setIn(s:St)(g:Nat)(x:Int):St:=⟨s.on,s.os,s.hs,s.ms,ku s.si g x,s.so,s.sf⟩
theorem j6.set{r:Rw}{G:Nat}(h:j6 A w r)(c:r.a=some ⟨G,0,none⟩)(j:Nat)(x:Int):j6 A (w.setCell ⟨G,j,none⟩ (.int .i64 x)) (ku r j x):=by
 obtain⟨g,b,k,l,f,e⟩:=h;rw[c] at b;simp only[Qkx,Qkz,and_true] at b;subst b;refine⟨G,c,k,l,f,(e.set j (.int .i64 x)).congr λi hi => ?_⟩;show(if i=j then _ else _)=Value.int .i64 (if i=j then x else r.z i);by_cases d:i=j<;>simp[d]
theorem j6.apart{r:Rw}{G:Nat}(h:j6 A w r)(i:r.a≠some ⟨G,0,none⟩)(j:Nat)(u:Value):j6 A (w.setCell ⟨G,j,none⟩ u) r:=by
 obtain⟨g,b,f,k,d,c⟩:=h;refine⟨g,b,f,k,d,c.other (a:=⟨G,j,none⟩) (λe=>i ?_) u⟩;rw[b,show g=G from e]
theorem Vj{x:Int}(i:Nat):(if i=b then ku (s.on.r i) g x else s.on.r i).a=(s.on.r i).a:=by
 by_cases h:i=b<;>simp[h,ku]
theorem ai.setOn{G:Nat}(h:ai A w s)(o:b<s.on.n)(l:(s.on.r b).a=some ⟨G,0,none⟩)(g:Nat)(x:Int):ai A (w.setCell ⟨G,g,none⟩ (.int .i64 x)) (Go.Proofs.YtbcacebifpagpafGreat.setOn s b g x):=by
 obtain⟨F,k,_,_,_,d⟩:=h.rows b o;rw[l] at k;simp only[Qkx,Qkz,and_true] at k;subst k;have q:=h.ari b o;rw[l] at q;refine⟨?_,λi hi => ?_,λi j p y => ?_,h.os.other d (by decide) (by decide) g _,h.hs.other d (by decide) g _,h.ms.other d (by decide) g _,h.msr.set _ _ _,h.si.apart (λe=>q.1 e.symm) g _,h.so.apart (λe=>q.2.1 e.symm) g _,h.sf.apart (λe=>q.2.2 e.symm) g _,h.aio,h.aif,h.aof,λi hi => ?_⟩
 .obtain⟨B,t,E,z,D,m⟩:=h.on;refine⟨B,t,E,z,D,(m.other (a:=⟨G,g,none⟩) (Blk.ne2 m d (by decide)) _).congr λi hi => ?_⟩;show _=Value.slice (if i=b then ku (s.on.r i) g x else s.on.r i).a (if i=b then ku (s.on.r i) g x else s.on.r i).n (if i=b then ku (s.on.r i) g x else s.on.r i).c;by_cases f:i=b<;>simp[f,ku]
 .show j6 A _ (if i=b then ku (s.on.r i) g x else s.on.r i);by_cases f:i=b
  .subst f;rw[if_pos rfl];exact(h.rows i hi).set l g x
  rw[if_neg f];refine(h.rows i hi).apart (λe => ?_) g _;rcases Nat.lt_or_gt_of_ne f with u|v
  .exact h.rapart i b u o (e.trans l.symm)
  exact h.rapart b i v hi (l.trans e.symm)
 .show(if i=b then ku (s.on.r i) g x else s.on.r i).a≠(if j=b then ku (s.on.r j) g x else s.on.r j).a;rw[Vj,Vj];exact h.rapart i j p y
 show(if i=b then ku (s.on.r i) g x else s.on.r i).a≠_/\(if i=b then ku (s.on.r i) g x else s.on.r i).a≠_/\(if i=b then ku (s.on.r i) g x else s.on.r i).a≠_;rw[Vj];exact h.ari i hi
theorem ai.setIn{G:Nat}(h:ai A w s)(d:s.si.a=some ⟨G,0,none⟩)(g:Nat)(x:Int):ai A (w.setCell ⟨G,g,none⟩ (.int .i64 x)) (Go.Proofs.YtbcacebifpagpafGreat.setIn s g x):=by
 obtain⟨o,c,_,_,_,b⟩:=h.si;rw[d] at c;simp only[Qkx,Qkz,and_true] at c;subst c;refine⟨?_,λi hi=>(h.rows i hi).apart (λe=>(h.ari i hi).1 (e.trans d.symm)) g _,h.rapart,h.os.other b (by decide) (by decide) g _,h.hs.other b (by decide) g _,h.ms.other b (by decide) g _,h.msr.set _ _ _,h.si.set d g x,h.so.apart (λe=>h.aio (d.trans e.symm)) g _,h.sf.apart (λe=>h.aif (d.trans e.symm)) g _,h.aio,h.aif,h.aof,h.ari⟩;obtain⟨l,j,n,k,m,f⟩:=h.on;exact⟨l,j,n,k,m,f.other (a:=⟨G,g,none⟩) (Blk.ne2 f b (by decide)) _⟩
def dx(s:St)(b g:Nat):Int:=(s.on.r b).z g+bp s b g s.ms.n
def gw(p:Pl)(s:St)(bin good n:Int):Int :=
 if ah p s=0 then(if inB bin 0 ((p.nb:Int)-1)&&inB good 0 ((p.ns:Int)-1)&&inB n 1 200 then(if gj p s bin.toNat<n*p.zs good.toNat then 5 else if 200<dx s bin.toNat good.toNat+n\/1048576<s.si.z good.toNat+n then 2 else 0) else 3) else ah p s
def li(s:St)(b g:Nat)(n:Int):St:=setIn (setOn s b g ((s.on.r b).z g+n)) g (s.si.z g+n)
def dv(E:Int)(t s':St):Prop:=(E=0->ae s' t)/\(¬E=0->Dj s')
theorem xr{t:St}(h:ae s t)(b g:Nat)(x:Int):ae (setOn s b g x) (setOn t b g x):=by
 refine⟨⟨h.on.1,λi hi => ?_⟩,h.os,h.hs,h.ms,h.si,h.so,h.sf⟩;have y:=h.on.2 i hi;show(if i=b then ku (s.on.r i) g x else s.on.r i).n=(if i=b then ku (t.on.r i) g x else t.on.r i).n/\∀j,j<(if i=b then ku (s.on.r i) g x else s.on.r i).n->(if i=b then ku (s.on.r i) g x else s.on.r i).z j=(if i=b then ku (t.on.r i) g x else t.on.r i).z j;by_cases a:i=b
 .rw[if_pos a,if_pos a];refine⟨y.1,λj c => ?_⟩;show(if j=g then x else(s.on.r i).z j)=if j=g then x else(t.on.r i).z j;rw[y.2 j c]
 rw[if_neg a,if_neg a];exact y
theorem Fc{t:St}(h:ae s t)(g:Nat)(x:Int):ae (setIn s g x) (setIn t g x):=by
 refine⟨h.on,h.os,h.hs,h.ms,⟨h.si.1,λj a => ?_⟩,h.so,h.sf⟩;show(if j=g then x else s.si.z j)=if j=g then x else t.si.z j;rw[h.si.2 j a]
theorem g9{f:Func}{r u:Tmp}(q:f.results=#[.cell r 31,.tmp u]){a:Act}{d:Int}{T:St}{B:Nat}{g:Nat->Value}(o:Blk c B 31 7 g)(k:Below w.heap.size w c)(t:w.heap.size<=B)(hx:W=d)(m:¬d=0)(s:a.tmps.getD r undef = .pointer (some ⟨B,0,none⟩))(n:a.tmps.getD u undef = .int .i64 d)(hd:a.defers=[]):
  bodyPost prog f (λe j=>∃y:St,e = .returned (.tuple #[y.val,.int .i64 W])/\y.At j/\dv W T y/\(W=0->ai w.heap.size j y)/\Below w.heap.size w j) Exit.ret a (((((((c.setCell ⟨B,0,none⟩ (.slice none 0 0)).setCell ⟨B,1,none⟩ (.slice none 0 0)).setCell ⟨B,2,none⟩ (.slice none 0 0)).setCell ⟨B,3,none⟩ (.slice none 0 0)).setCell ⟨B,4,none⟩ (.slice none 0 0)).setCell ⟨B,5,none⟩ (.slice none 0 0)).setCell ⟨B,6,none⟩ (.slice none 0 0)):=by
 have l:=rp o (.slice none 0 0) (.slice none 0 0) (.slice none 0 0) (.slice none 0 0) (.slice none 0 0) (.slice none 0 0) (.slice none 0 0);have i:=na (b:=B) k t (.slice none 0 0) (.slice none 0 0) (.slice none 0 0) (.slice none 0 0) (.slice none 0 0) (.slice none 0 0) (.slice none 0 0);unfold set7 at l i;obtain⟨p,c1,c2,c3,c4,c5,c6⟩:=co l
 generalize (((((((c.setCell ⟨B,0,none⟩ (.slice none 0 0)).setCell ⟨B,1,none⟩ (.slice none 0 0)).setCell ⟨B,2,none⟩ (.slice none 0 0)).setCell ⟨B,3,none⟩ (.slice none 0 0)).setCell ⟨B,4,none⟩ (.slice none 0 0)).setCell ⟨B,5,none⟩ (.slice none 0 0)).setCell ⟨B,6,none⟩ (.slice none 0 0))=E at *
 refine Xzq (v := .tuple #[ng.val,.int .i64 d]) ?_ hd ?_
 .rw[results_cell_tmp q,s,n];simp[go_sem,ng,St.val,p,c1,c2,c3,c4,c5,c6]
 exact⟨ng,by rw[hx],y9 _,⟨λh=>absurd (hx.symm.trans h) m,λ_=>⟨rfl,rfl,rfl,rfl,rfl,rfl,rfl⟩⟩,λh=>absurd (hx.symm.trans h) m,i⟩
structure Tk where
 left:Int
 took:Int->Int
def Tk.step(av:Int->Int)(t:Tk)(b:Int):Tk:=⟨t.left-min t.left (av b),λx=>t.took x+if x=b then min t.left (av b) else 0⟩
def Tk.go(av:Int->Int)(n:Int)(l:List Int):Tk:=l.foldl (Tk.step av) ⟨n,λ_=>0⟩
theorem Tk.go_more(av:Int->Int)(n:Int)(l:List Int)(b:Int):Tk.go av n (l++[b])=(Tk.go av n l).step av b:=by
 unfold Tk.go;rw[List.foldl_append]
 rfl
structure Ac(av:Int->Int)(n:Int)(l:List Int)(t:Tk):Prop where
 left0:0<=t.left
 leftn:t.left<=n
 took0:∀x,0<=t.took x
 tookn:∀x,t.took x<=n-t.left
 had:∀x,x∈l->t.took x<=av x
 other:∀x,x ∉ l->t.took x=0
 all:0<t.left->∀x,x∈l->t.took x=av x
 sum:cv (λb=>t.took b) 6=n-t.left
theorem abo{av:Int->Int}{n:Int}(s:0<=n):∀{l:List Int},l.Pairwise (λx y=>¬x=y)->(∀x,x∈l->0<=av x)->(∀x,x∈l->0<=x/\x<6)->Ac av n l (Tk.go av n l):=by
 suffices H:∀(k:Nat) (l:List Int),l.length=k->l.Pairwise (λx y=>¬x=y)->(∀x,x∈l->0<=av x)->(∀x,x∈l->0<=x/\x<6)->Ac av n l (Tk.go av n l) from λ{l}=>H l.length l rfl
 intro k
 induction k with
 | zero =>
  intro l g _ _ _;obtain rfl:=List.eq_nil_of_length_eq_zero g;exact⟨s,Int.le_refl _,λ_=>Int.le_refl _,λ_=>by show(0:Int)<=n-n;omega,λx h=>by simp at h,λ_ _=>rfl,λ_ x h=>by simp at h,by show(0:Int)+0+0+0+0+0+0=n-n;omega⟩
 | succ m ih =>
  intro l0 c hd p d;obtain⟨l,b,rfl⟩:∃l b,l0=l++[b]:=⟨l0.dropLast,l0.getLast (by intro e;rw[e] at c;simp at c),(List.dropLast_concat_getLast _).symm⟩;have j:l.length=m:=by simpa using c
  rw[List.pairwise_append] at hd;have r:b ∉ l:=λq=>hd.2.2 b q b (by simp) rfl;have k:=ih l j hd.1 (λx hx=>p x (by simp[hx])) (λx hx=>d x (by simp[hx]));have A:=d b (by simp);have B:=p b (by simp);rw[Tk.go_more]
  generalize Tk.go av n l=t at k
  have E:=k.left0;have v:=k.leftn;have u:0<=min t.left (av b)/\min t.left (av b)<=t.left/\min t.left (av b)<=av b:=by omega
  have w:=k.other b r;refine⟨?_,?_,λx => ?_,λx => ?_,λx hx => ?_,λx hx => ?_,λg x hx => ?_,?_⟩
  .show 0<=t.left-min t.left (av b);omega
  .show t.left-min t.left (av b)<=n;omega
  .have:=k.took0 x;show 0<=t.took x+if x=b then min t.left (av b) else 0
   split<;>omega
  .have:=k.tookn x;show(t.took x+if x=b then min t.left (av b) else 0)<=n-(t.left-min t.left (av b))
   split<;>omega
  .show(t.took x+if x=b then min t.left (av b) else 0)<=av x;by_cases a:x=b
   .subst a;rw[if_pos rfl];omega
   rw[if_neg a];have:x∈l:=by simpa[a] using hx
   have:=k.had x this;omega
  .show(t.took x+if x=b then min t.left (av b) else 0)=0;have a:¬x=b:=λe=>hx (by simp[e]);have o:x ∉ l:=λe=>hx (by simp[e]);rw[if_neg a,k.other x o]
   rfl
  .have D:0<t.left-min t.left (av b):=g;show(t.took x+if x=b then min t.left (av b) else 0)=av x;by_cases a:x=b
   .subst a;rw[if_pos rfl];omega
   rw[if_neg a];have:x∈l:=by simpa[a] using hx
   have:=k.all (by omega) x this;omega
  show cv (λx=>t.took x+if (x:Int)=b then min t.left (av b) else 0) 6=n-(t.left-min t.left (av b));have e:=k.sum;rw[Bn (z:=λx=>t.took x) (m:=b.toNat) (n:=min t.left (av b)) (by omega) λi hi=>by
   by_cases f:i=b.toNat
   .have:((i:Nat):Int)=b:=by omega
    rw[if_pos this,if_pos f]
   have:¬((i:Nat):Int)=b:=by omega
   rw[if_neg this,if_neg f,Int.add_zero],e]
  omega
def fc(p:Pl)(but:Int):List Int:=(fw p).filter (λb => !(b==but))
theorem vv{but x:Int}:x∈fc p but↔x∈fw p/\¬x=but:=by
 unfold fc;rw[List.mem_filter];simp
theorem un(p:Pl)(but:Int):(fc p but).Pairwise (λx y=>¬x=y):=((P2 p).imp λh=>h.1).filter _
def de(p:Pl)(s:St):Bool := !(jh p s||gu p s||j9 p s||fo p s)
theorem Rk(hi:i<s.os.n)(h:lr p (s.os.z i)=true):de p s=false:=by
 have:jh p s=true:=du hi h;simp[de,this]
theorem X7(h:¬h9 s.hs.n s.hs.z=0):de p s=false:=by
 have:gu p s=true:=by simp[gu,h]
 simp[de,this]
theorem aao(hi:i<s.hs.n)(h:i7 p s (s.hs.z i)=true):de p s=false:=by
 have:gu p s=true:=by unfold gu;rw[du hi h,Bool.or_true]
 simp[de,this]
theorem aap(hi:i<s.ms.n)(h:l6 p (s.ms.z i)=true):de p s=false:=by
 have:j9 p s=true:=du hi h;simp[de,this]
theorem aae(h:¬s.si.n=p.ns):de p s=false:=by
 have:fo p s=true:=by
  have a:((s.si.n:Int) !=(p.ns:Int))=true:=by simp;omega
  simp[fo,lu,a]
 simp[de,this]
theorem aaj(h:¬s.so.n=p.ns):de p s=false:=by
 have:fo p s=true:=by
  have a:((s.so.n:Int) !=(p.ns:Int))=true:=by simp;omega
  simp[fo,lu,a]
 simp[de,this]
theorem aac(h:¬s.sf.n=p.ns):de p s=false:=by
 have:fo p s=true:=by
  have a:((s.sf.n:Int) !=(p.ns:Int))=true:=by simp;omega
  simp[fo,lu,a]
 simp[de,this]
theorem Gk{l:Rw}(b:l.n=p.ns)(a:g<p.ns)(h:inB (l.z g) r 1048576=false):lu p l r=true:=by
 unfold lu;rw[du (k:=g) (by omega) (by rw[h];rfl),Bool.or_true]
theorem Hb{l:Rw}(a:l.n=p.ns)(h:∀g,g<p.ns->inB (l.z g) r 1048576=true):lu p l r=false:=by
 unfold lu;rw[cu λj b=>by rw[h j (by omega)];rfl,a];simp
theorem Rr(h:lu p s.si 0=true\/lu p s.so 0=true\/lu p s.sf (-1048576)=true):de p s=false:=by
 have:fo p s=true:=by
  unfold fo;rcases h with h|h|h<;>rw[h]<;>simp
 simp[de,this]
def Ml(s:St)(g:Nat):Bool:=inB (s.si.z g) 0 1048576&&inB (s.so.z g) 0 1048576&&inB (s.sf.z g) (-1048576) 1048576
theorem abw(e:∀i,i<s.os.n->lr p (s.os.z i)=false)(l:h9 s.hs.n s.hs.z=0)(d:∀i,i<s.hs.n->i7 p s (s.hs.z i)=false)(c:∀i,i<s.ms.n->l6 p (s.ms.z i)=false)
  (b:s.si.n=p.ns/\s.so.n=p.ns/\s.sf.n=p.ns) (j:∀g,g<p.ns->Ml s g=true):de p s=true:=by
 have f:jh p s=false:=cu e;have o:gu p s=false:=by unfold gu;rw[l,cu d];rfl
 have m:j9 p s=false:=cu c;have k:fo p s=false:=by
  have h:∀g,g<p.ns->(inB (s.si.z g) 0 1048576=true/\inB (s.so.z g) 0 1048576=true)/\inB (s.sf.z g) (-1048576) 1048576=true:=λg a=>by
   have:=j g a
   simpa[Ml] using this
  unfold fo;rw[Hb b.1 λg a=>(h g a).1.1,Hb b.2.1 λg a=>(h g a).1.2,Hb b.2.2 λg a=>(h g a).2]
  rfl
 unfold de;rw[f,o,m,k]
 rfl
theorem Iv(h:h9 n z=0):aw n (da z)=false:=by
 cases a:aw n (da z)
 .rfl
 simp[h9,a] at h
theorem ws{k:Nat}{f:Nat->Bool}{b:Bool}(h:∀j,j<k->f j=b)(c:f k=b):∀j,j<k+1->f j=b:=λj d=>by
 by_cases a:j=k
 .rw[a];exact c
 exact h j (by omega)
theorem Ue(p:Pl)(s:St)(w:World)(hp:p.At w)(hs:s.At w)(h0:ey p s.on=0)(h1:gh s=false):
  Calls prog 138 #[p.val,s.val] w λe w'=>e = .returned (.bool (de p s))/\Below w.heap.size w w':=by
 obtain⟨M,hW,dc,X0⟩:=G9 w p s;have HC:=F8 hp hs dc X0;have HW:=hid hW;have HT:Hid (s.os.n<=4/\s.ms.n<=8/\(∀i,i<s.os.n->1<=(s.os.z i).ls.n/\(s.os.z i).ls.n<=3)):=by
  unfold gh at h1;simp only[Xxq,decide_eq_false_iff_not] at h1;refine⟨by omega,by omega,λi hi => ?_⟩;have:=dj h1.2 i hi;simp only[qd,Bool.not_eq_false'] at this;have:=aq this;omega
 have HR:Hid (tr p s.on):=(ts h0).2;have leb:=hp.leb;have af:=hp.capb;have les:=hp.les;have az:=hp.caps;have capb:=af;have caps:=az;have eo:=hs.os.le;have cn:=hs.os.cap;have ei:=hs.hs.le;have cd:=hs.hs.cap;have ep:=hs.ms.le;have cc:=hs.ms.cap;unfold maxLen at capb caps cn cd cc;have os4:=HT.out.1;have ms8:=HT.out.2.1;have ns3:=HR.out.pl.ns3;clear hW X0 h0 h1 hp hs;unfold Pl.val St.val;go_enter func138,ntmps138;go_wp2_with fail;rw[HW.out]
 go_loopw [5] (λi A=>∃k:Nat,k<=s.os.n/\i = .int .i64 k/\(∀j,j<k->lr p (s.os.z j)=false)/\Below M.heap.size M A) (λi _=>s.os.n-(intOf i).toNat)
 case atStart=>exact⟨0,Qxz _,rfl,λj hj=>absurd hj (Qzq _),Below.refl _ _⟩
 obtain⟨i,hi,rfl,J,B⟩:=hrel;have HN:=hid J;clear J;obtain⟨X,D,r,d⟩:=HC.out wr B;obtain⟨⟨l1,d0,d1⟩,l2,T,c1,c2,c3,c4,c5,c6⟩:=X;by_cases y:i<s.os.n
 .obtain⟨b,o,U,hb,z0,z1,hl⟩:=r.os.ods i y;have q1:(0:Int)<=(i:Int):=by omega
  have em:=(HT.out.2.2 i y);have ct:=hl.le;have a6:=hl.cap;unfold maxLen at a6;have HO:=hid U;have HE:Hid (lr p (s.os.z i)=(!inB (s.os.z i).k 0 2||aw (s.os.z i).ls.n (λj=>jx p ((s.os.z i).ls.z j)))):=rfl;rw[U] at c1;clear U hl r T c2 c3 c4 c5 c6 D;cases hk:inB (s.os.z i).k 0 2
  .have f:Hid (de p s=false):=Rk y (by rw[HE.out,hk];rfl)
   generalize (s.os.z i).k=KD at *
   go_wp2_with(go_at_call 44;refine ag (cf _ _ _ _) ?_);go_ret;exact⟨by rw[f.out];rfl,d⟩
  have b0:Hid (lr p (s.os.z i)=aw (s.os.z i).ls.n (λj=>jx p ((s.os.z i).ls.z j))):=by show lr p (s.os.z i)=_;rw[HE.out,hk];rfl
  clear HE
  generalize (s.os.z i).k=KD at *
  go_wp2_with(go_at_call 44;refine ag (cf _ _ _ _) ?_);clear hk z0 d z1 c1 d0 d1 l1 l2 hb
  go_loopw [6] (λi0 A=>∃k:Nat,k<=(s.os.z i).ls.n/\i0 = .int .i64 k/\(∀j,j<k->jx p ((s.os.z i).ls.z j)=false)/\Below M.heap.size M A) (λi0 _=>(s.os.z i).ls.n-(intOf i0).toNat)
  case atStart=>exact⟨0,Qxz _,rfl,λj hj=>absurd hj (Qzq _),B⟩
  clear B;obtain⟨j,hj,rfl,J,B⟩:=hrel;have Q:=hid J;clear J;obtain⟨X,D,r,d⟩:=HC.out wr B;obtain⟨⟨l1,d0,d1⟩,l2,T,c1,c2,c3,c4,c5,c6⟩:=X;obtain⟨b',o',U,hb,z0,z1,hl⟩:=r.os.ods i y;rw[HO.out] at U c1;simp only[Qkx,Qkz,and_true] at U;obtain⟨rfl,rfl⟩:=U;by_cases b6:j<(s.os.z i).ls.n;rotate_left
  .have HA:Hid (lr p (s.os.z i)=false):=by show lr p (s.os.z i)=false;rw[b0.out];exact cu λj' ek=>Q.out j' (by omega)
   clear T c2 c3 c4 c5 c6 D r hl;go_wp2_with fail;go_roundw
   case rel=>exact⟨i+1,by omega,by go_num,ws HN.out HA.out,B⟩
   case measure=>simp[intOf];omega
  obtain⟨b2,o2,bz,co,y0,y1,y2,y3⟩:=hl.hds j b6;have q2:(0:Int)<=(j:Int):=by omega
  have m:Hid (jx p ((s.os.z i).ls.z j)=true->de p s=false):=λh=>Rk y (by rw[b0.out];exact du b6 h);have u:Hid (jx p ((s.os.z i).ls.z j)=false->∀j',j'<j+1->jx p ((s.os.z i).ls.z j')=false):=λh=>ws Q.out h;have t:Hid (jx p ((s.os.z i).ls.z j)=(!inB ((s.os.z i).ls.z j).o 0 ((p.ns:Int)-1) || !inB ((s.os.z i).ls.z j).l 1 200 || !inB ((s.os.z i).ls.z j).b 0 ((s.os.z i).ls.z j).l || !inB ((s.os.z i).ls.z j).n 0 ((s.os.z i).ls.z j).l)):=rfl;rw[bz] at z1;clear bz hl r D T c2 c3 c4 c5 c6 z0 Q
  generalize jx p ((s.os.z i).ls.z j)=BL at *
  generalize (s.os.z i).ls.z j=v at *
  obtain⟨H,ak,G,F⟩:∃H,wr.alloc (.cells #[.int .i64 v.o,.int .i64 v.l,.int .i64 v.b,.int .i64 v.n] 68)=H/\Below M.heap.size M H/\Blk H wr.heap.size 68 4 (λj=>(#[.int .i64 v.o,.int .i64 v.l,.int .i64 v.b,.int .i64 v.n]:Array Value).getD j default):=⟨_,rfl,B.alloc B.size _,Blk.mk' rfl rfl⟩;obtain⟨B4,S⟩:∃B4,wr.heap.size=B4:=⟨_,rfl⟩;rw[S] at F;have HV:=qa2 ak S;obtain⟨X,D,r,K⟩:=HC.out H G;have da:=hid X;clear ak S X D r;have HY:Hid (∀A,Below H.heap.size H A->(A.cell? ⟨B4,1,none⟩=some (.int .i64 v.l)/\A.cell? ⟨B4,2,none⟩=some (.int .i64 v.b)/\A.cell? ⟨B4,3,none⟩=some (.int .i64 v.n)/\B4<A.heap.size)/\Below M.heap.size M A/\Below w.heap.size w A):=
   λA h=>⟨⟨(F.below h).k 1,(F.below h).k 2,(F.below h).k 3,(F.below h).lt⟩,G.trans (h.mono G.size),K.trans (h.mono K.size)⟩
  clear F G K d;go_wp2_with fail;rw[HV.out.1];refine(ue p v.o H les az).mono ?_;rintro e w2 ⟨rfl,W⟩;rw[HV.out.2];obtain⟨⟨t1,t2,t3,l4⟩,ar,d⟩:=HY.out w2 W;clear W HY HV da y0 y1 y2 y3 z1 c1 d0 d1 l1 l2 hb co B;cases x:inB v.o 0 ((p.ns:Int)-1)
  .have f:Hid (de p s=false):=m.out (by rw[t.out,x];rfl);clear t m u x;go_wp2_with fail;go_ret;exact⟨by rw[f.out];rfl,d⟩
  cases E:inB v.l 1 200
  .have f:Hid (de p s=false):=m.out (by rw[t.out,x,E];rfl);clear t m u x;go_wp2_with(go_at_call 44;refine ag (cf _ _ _ _) ?_);go_ret;exact⟨by rw[f.out];rfl,d⟩
  cases L:inB v.b 0 v.l
  .have f:Hid (de p s=false):=m.out (by rw[t.out,x,E,L];rfl);clear t m u x;go_wp2_with(go_at_call 44;refine ag (cf _ _ _ _) ?_);go_ret;exact⟨by rw[f.out];rfl,d⟩
  cases k4:inB v.n 0 v.l
  .have f:Hid (de p s=false):=m.out (by rw[t.out,x,E,L,k4];rfl);clear t m u x;go_wp2_with(go_at_call 44;refine ag (cf _ _ _ _) ?_);go_ret;exact⟨by rw[f.out];rfl,d⟩
  have f:=u.out (by rw[t.out,x,E,L,k4];rfl);have ao:Hid _:=f;clear t m u x f;go_wp2_with(go_at_call 44;refine ag (cf _ _ _ _) ?_);go_roundw
  case rel=>exact⟨j+1,by omega,by go_num,ao.out,ar⟩
  case measure=>simp[intOf];omega
 have dk:Hid (∀j,j<s.os.n->lr p (s.os.z j)=false):=λj hj=>HN.out j (by omega);clear HN;have b7:=hid r.hs;clear r D T c3 c4 c5 c6 d d0 d1;go_wp2_with fail;refine(Ni s.hs wr b7.out).mono ?_;rintro e w2 ⟨rfl,W⟩;have B:=B.trans (W.mono B.size);clear W b7 c1 c2 l1 l2 y hi;by_cases h0:h9 s.hs.n s.hs.z=0;rotate_left
 .have f:Hid (de p s=false):=X7 h0;obtain⟨X,D,r,d⟩:=HC.out w2 B;clear X D r;go_wp2_with fail;go_ret;exact⟨by rw[f.out];rfl,d⟩
 have H0:=hid h0;have el:s.hs.n<=72:=wh (Iv h0);rw[h0];clear h0;go_wp2_with fail
 go_loopw [8] (λi A=>∃k:Nat,k<=s.hs.n/\i = .int .i64 k/\(∀j,j<k->i7 p s (s.hs.z j)=false)/\Below M.heap.size M A) (λi _=>s.hs.n-(intOf i).toNat)
 case atStart=>exact⟨0,Qxz _,rfl,λj hj=>absurd hj (Qzq _),B⟩
 clear B;obtain⟨k,hk,rfl,J,B⟩:=hrel;have Q:=hid J;clear J;obtain⟨X,D,r,d⟩:=HC.out wr B;obtain⟨⟨l1,d0,d1⟩,l2,T,c1,c2,c3,c4,c5,c6⟩:=X;by_cases y:k<s.hs.n
 .obtain⟨b,q,bx,hb,z0,z1,z2,z3⟩:=r.hs.hds k y;have a0:=cy (bw (Iv H0.out) k y);obtain⟨P,bk⟩:=Qzz a0.1.1;obtain⟨ml,bl⟩:=Qzz a0.2.1.1;have q4:(0:Int)<=(k:Int):=by omega
  have q2:(0:Int)<=(P:Int):=by omega
  have q3:(0:Int)<=(ml:Int):=by omega
  have m:Hid (i7 p s (s.hs.z k)=true->de p s=false):=λh=>aao y h;have u:Hid (i7 p s (s.hs.z k)=false->∀j',j'<k+1->i7 p s (s.hs.z j')=false):=λh=>ws Q.out h;have t:Hid (i7 p s (s.hs.z k)=(!inB P 0 ((s.os.n:Int)-1) || !inB ml 0 (((s.os.z P).ls.n:Int)-1) || !inB (s.hs.z k).b 0 ((p.nb:Int)-1))):=by
   show i7 p s (s.hs.z k)=_;unfold i7;rw[bk,bl]
   rfl
  rw[bk] at z0;rw[bl] at z1;rw[bx] at c2;clear bk bl a0 Q bx
  generalize i7 p s (s.hs.z k)=BL at *
  generalize (s.hs.z k).b=HB at *
  generalize (s.hs.z k).n=b4 at *
  obtain⟨H,ak,G,F,en⟩:∃H,wr.alloc (.cells #[.int .i64 P,.int .i64 ml,.int .i64 HB,.int .i64 b4] 103)=H/\Below M.heap.size M H/\Blk H wr.heap.size 103 4 (λj=>(#[.int .i64 P,.int .i64 ml,.int .i64 HB,.int .i64 b4]:Array Value).getD j default)/\Below wr.heap.size wr H:=⟨_,rfl,B.alloc B.size _,Blk.mk' rfl rfl,brf.alloc nlr _⟩;have HV:=hid ak;obtain⟨X,ca,a8,K⟩:=HC.out H G;obtain⟨⟨m1,e0,e1⟩,m2,f0,f1,f2,f3,f4,f5,f6⟩:=X;have r0:=Qqq (F.k 0);have r1:=Qqq (F.k 1);have r2:=Qqq (F.k 2);have r3:=Qqq e0;have r4:=Qqq e1;clear e0 e1 f0 f2 f3 f4 f5 f6 ca ak;by_cases g1:P<s.os.n;rotate_left
  .have bm:(s.os.n:Int)<=(P:Int):=by omega
   have c9:decide ((s.os.n:Int)<=(P:Int))=true:=decide_eq_true bm;have x:inB P 0 ((s.os.n:Int)-1)=false:=We (by omega);have r5:=Qqq f1;have f:Hid (de p s=false):=m.out (by rw[t.out,x];rfl);clear t m u x f1 a8;go_wp2_with fail;rw[HV.out];refine Qxq (by kernel_rfl) (by kernel_rfl) ?_
   repeat(go_big_quiet_step(fail))
   refine Qqz ?_;intro _ ap;obtain⟨⟨dq,br⟩,Y⟩:=ap;subst Y;go_wp2_with fail;go_ret;exact⟨by rw[f.out];rfl,K.trans ((Qxx _ _ _).mono K.size)⟩
  obtain⟨b1,o1,U,eh,-,y1,hl⟩:=a8.os.ods P g1;have ct:=hl.le;have a6:=hl.cap;have l3:=HT.out.2.2 P g1;unfold maxLen at a6;rw[U] at f1;have r5:=Qqq f1;have r6:=Qqq y1;have bm:¬(s.os.n:Int)<=(P:Int):=by omega
  have c9:decide ((s.os.n:Int)<=(P:Int))=false:=decide_eq_false bm;have cp:¬s.os.n<=P:=by omega
  have ej:decide (s.os.n<=P)=false:=decide_eq_false cp;have x:inB P 0 ((s.os.n:Int)-1)=true:=bq (by omega);clear U hl a8 f1 y1
  generalize (s.os.z P).ls.n=LN at *
  generalize (s.os.z P).ls.a=LA at *
  generalize (s.os.z P).ls.c=LC at *
  by_cases g2:ml<LN;rotate_left
  .have bn:(LN:Int)<=(ml:Int):=by omega
   have cx:decide ((LN:Int)<=(ml:Int))=true:=decide_eq_true bn;have bh:LN<=ml:=by omega
   have cz:decide (LN<=ml)=true:=decide_eq_true bh;have E:inB ml 0 ((LN:Int)-1)=false:=We (by omega);have f:Hid (de p s=false):=m.out (by rw[t.out,x,E];rfl);clear t m u x E;go_wp2_with fail;rw[HV.out];refine Qxq (by kernel_rfl) (by kernel_rfl) ?_
   repeat(go_big_quiet_step(fail))
   refine Qqz ?_;intro _ ap;obtain⟨⟨dq,br⟩,Y⟩:=ap;subst Y;go_wp2_with fail;go_ret;exact⟨by rw[f.out];rfl,K.trans ((Qxx _ _ _).mono K.size)⟩
  have bn:¬(LN:Int)<=(ml:Int):=by omega
  have cx:decide ((LN:Int)<=(ml:Int))=false:=decide_eq_false bn;have bh:¬LN<=ml:=by omega
  have cz:decide (LN<=ml)=false:=decide_eq_false bh;have E:inB ml 0 ((LN:Int)-1)=true:=bq (by omega);cases L:inB HB 0 ((p.nb:Int)-1)
  .have f:Hid (de p s=false):=m.out (by rw[t.out,x,E,L];rfl);clear t m u x E;go_wp2_with fail;rw[HV.out];refine Qxq (by kernel_rfl) (by kernel_rfl) ?_
   repeat(go_big_quiet_step((go_at_call 81;exact Xxz (zq p HB _ leb af))))
   refine Qqz ?_;intro _ ap;obtain⟨⟨dq,br⟩,Y⟩:=ap;subst Y;rw[L];go_wp2_with fail;go_ret;exact⟨by rw[f.out];rfl,K.trans ((Qxx _ _ _).mono K.size)⟩
  have f:=u.out (by rw[t.out,x,E,L];rfl);have ao:Hid _:=f;clear t m u x E f;go_wp2_with fail;rw[HV.out];refine Qxq (by kernel_rfl) (by kernel_rfl) ?_
  repeat(go_big_quiet_step((go_at_call 81;exact Xxz (zq p HB _ leb af))))
  refine Qqz ?_;intro _ ap;obtain⟨⟨dq,br⟩,Y⟩:=ap;subst Y;rw[L];go_wp2_with fail;go_roundw
  case rel=>exact⟨k+1,by omega,by go_num,ao.out,G.trans ((Qxx _ _ _).mono G.size)⟩
  case measure=>simp[intOf];omega
 have dg:Hid (∀j,j<s.hs.n->i7 p s (s.hs.z j)=false):=λj hj=>Q.out j (by omega);clear Q;go_wp2_with fail;clear r D T c1 c2 c3 c4 c5 c6 d0 d1 d l1 l2 y hk
 go_loopw [10] (λi A=>∃k:Nat,k<=s.ms.n/\i = .int .i64 k/\(∀j,j<k->l6 p (s.ms.z j)=false)/\Below M.heap.size M A) (λi _=>s.ms.n-(intOf i).toNat)
 case atStart=>exact⟨0,Qxz _,rfl,λj hj=>absurd hj (Qzq _),B⟩
 clear B;obtain⟨k,hk,rfl,J,B⟩:=hrel;have Q:=hid J;clear J;obtain⟨X,D,r,d⟩:=HC.out wr B;obtain⟨⟨l1,d0,d1⟩,l2,T,c1,c2,c3,c4,c5,c6⟩:=X;by_cases y:k<s.ms.n
 .obtain⟨b,q,b5,hb,z0,z1,z2,z3⟩:=r.ms.hds k y;have q4:(0:Int)<=(k:Int):=by omega
  have m:Hid (l6 p (s.ms.z k)=true->de p s=false):=λh=>aap y h;have u:Hid (l6 p (s.ms.z k)=false->∀j',j'<k+1->l6 p (s.ms.z j')=false):=λh=>ws Q.out h;have t:Hid (l6 p (s.ms.z k)=(!inB (s.ms.z k).o 0 ((p.ns:Int)-1) || !inB (s.ms.z k).l 0 ((p.nb:Int)-1) || !inB (s.ms.z k).b 0 ((p.nb:Int)-1)||((s.ms.z k).l==(s.ms.z k).b) || !inB (s.ms.z k).n 1 200)):=rfl;rw[b5] at c3;clear b5 r D T c1 c2 c4 c5 c6 Q
  generalize l6 p (s.ms.z k)=BL at *
  generalize s.ms.z k=v at *
  obtain⟨H,ak,G,F⟩:∃H,wr.alloc (.cells #[.int .i64 v.o,.int .i64 v.l,.int .i64 v.b,.int .i64 v.n] 77)=H/\Below M.heap.size M H/\Blk H wr.heap.size 77 4 (λj=>(#[.int .i64 v.o,.int .i64 v.l,.int .i64 v.b,.int .i64 v.n]:Array Value).getD j default):=⟨_,rfl,B.alloc B.size _,Blk.mk' rfl rfl⟩;obtain⟨B4,S⟩:∃B4,wr.heap.size=B4:=⟨_,rfl⟩;rw[S] at F;have HV:=qa2 ak S;have HY:Hid (∀A,Below H.heap.size H A->(A.cell? ⟨B4,1,none⟩=some (.int .i64 v.l)/\A.cell? ⟨B4,2,none⟩=some (.int .i64 v.b)/\A.cell? ⟨B4,3,none⟩=some (.int .i64 v.n)/\B4<A.heap.size)/\(w.heap.size<A.heap.size/\A.cell? ⟨w.heap.size,0,none⟩=some (.slice p.ab p.nb p.cb)/\A.cell? ⟨w.heap.size,1,none⟩=some (.slice p.sa p.ns p.cs))/\Below M.heap.size M A/\Below w.heap.size w A):=
   λA h=>⟨⟨(F.below h).k 1,(F.below h).k 2,(F.below h).k 3,(F.below h).lt⟩,(HC.out A (G.trans (h.mono G.size))).1.1,G.trans (h.mono G.size),(HC.out A (G.trans (h.mono G.size))).2.2.2⟩
  clear F G d ak S;go_wp2_with fail;rw[HV.out.1];refine(ue p v.o H les az).mono ?_;rintro e w2 ⟨rfl,W⟩;rw[HV.out.2];clear d0 d1 l1 l2 hb B z0 z1 z2 z3 c3 HV;obtain⟨⟨t1,t2,t3,l4⟩,⟨l1,d0,d1⟩,ar,d⟩:=HY.out w2 W;cases x:inB v.o 0 ((p.ns:Int)-1)
  .have f:Hid (de p s=false):=m.out (by rw[t.out,x];rfl);clear t m u x;go_wp2_with fail;go_ret;exact⟨by rw[f.out];rfl,d⟩
  go_wp2_with fail;refine(zq p v.l w2 leb af).mono ?_;rintro e w3 ⟨rfl,ax⟩;have ax:=W.trans (ax.mono W.size);clear W t1 t2 t3 l4 l1 d0 d1 ar d;obtain⟨⟨t1,t2,t3,l4⟩,⟨l1,d0,d1⟩,ar,d⟩:=HY.out w3 ax;cases E:inB v.l 0 ((p.nb:Int)-1)
  .have f:Hid (de p s=false):=m.out (by rw[t.out,x,E];rfl);clear t m u x E;go_wp2_with fail;go_ret;exact⟨by rw[f.out];rfl,d⟩
  go_wp2_with fail;refine(zq p v.b w3 leb af).mono ?_;rintro e w4 ⟨rfl,S⟩;have S:=ax.trans (S.mono ax.size);clear ax t1 t2 t3 l4 l1 d0 d1 ar d;obtain⟨⟨t1,t2,t3,l4⟩,⟨l1,d0,d1⟩,ar,d⟩:=HY.out w4 S;cases L:inB v.b 0 ((p.nb:Int)-1)
  .have f:Hid (de p s=false):=m.out (by rw[t.out,x,E,L];rfl);clear t m u x E L;go_wp2_with fail;go_ret;exact⟨by rw[f.out];rfl,d⟩
  cases k4:(v.l==v.b)
  .cases k5:inB v.n 1 200
   .have f:Hid (de p s=false):=m.out (by rw[t.out,x,E,L,k4,k5];rfl);clear t m u x E L;go_wp2_with(go_at_call 44;refine ag (cf _ _ _ _) ?_);go_ret;exact⟨by rw[f.out];rfl,d⟩
   have f:=u.out (by rw[t.out,x,E,L,k4,k5];rfl);have ao:Hid _:=f;clear t m u x E L f;go_wp2_with(go_at_call 44;refine ag (cf _ _ _ _) ?_);go_roundw
   case rel=>exact⟨k+1,by omega,by go_num,ao.out,ar⟩
   case measure=>simp[intOf];omega
  have f:Hid (de p s=false):=m.out (by rw[t.out,x,E,L,k4];rfl);clear t m u x E L;go_wp2_with fail;go_ret;exact⟨by rw[f.out];rfl,d⟩
 have dd:Hid (∀j,j<s.ms.n->l6 p (s.ms.z j)=false):=λj hj=>Q.out j (by omega);clear Q;by_cases n1:s.si.n=p.ns;rotate_left
 .have f:Hid (de p s=false):=aae n1;have m1:((s.si.n:Int) !=(p.ns:Int))=true:=by simp;omega
  clear r D T c1 c2 c5 c6;go_wp2_with fail;go_ret;exact⟨by rw[f.out];rfl,d⟩
 by_cases n2:s.so.n=p.ns;rotate_left
 .have f:Hid (de p s=false):=aaj n2;have m1:((s.si.n:Int) !=(p.ns:Int))=false:=by simp[n1]
  have m2:((s.so.n:Int) !=(p.ns:Int))=true:=by simp;omega
  clear r D T c1 c2 c6 n1;go_wp2_with fail;go_ret;exact⟨by rw[f.out];rfl,d⟩
 by_cases n3:s.sf.n=p.ns;rotate_left
 .have f:Hid (de p s=false):=aac n3;have m1:((s.si.n:Int) !=(p.ns:Int))=false:=by simp[n1]
  have m2:((s.so.n:Int) !=(p.ns:Int))=false:=by simp[n2]
  have m3:((s.sf.n:Int) !=(p.ns:Int))=true:=by simp;omega
  clear r D T c1 c2 n1 n2;go_wp2_with fail;go_ret;exact⟨by rw[f.out];rfl,d⟩
 have V:=qa3 n1 n2 n3;have q1:=r.si.le;have q2:=r.si.cap;have q3:=r.so.le;have q4:=r.so.cap;have q5:=r.sf.le;have q6:=r.sf.cap;unfold maxLen at q2 q4 q6;rw[n1] at c4 q1;rw[n2] at c5 q3;rw[n3] at c6 q5;clear n1 n2 n3 r D T c1 c2 d;go_wp2_with fail;clear c3 c4 c5 c6 d0 d1 l1 l2 y hk
 go_loopw [12] (λi A=>∃k:Nat,k<=p.ns/\i = .int .i64 k/\(∀j,j<k->Ml s j=true)/\Below M.heap.size M A) (λi _=>p.ns-(intOf i).toNat)
 case atStart=>exact⟨0,Qxz _,rfl,λj hj=>absurd hj (Qzq _),B⟩
 clear B;obtain⟨g,hg,rfl,J,B⟩:=hrel;have Q:=hid J;clear J;obtain⟨X,D,r,d⟩:=HC.out wr B;obtain⟨⟨l1,d0,d1⟩,l2,T,c1,c2,c3,c4,c5,c6⟩:=X;by_cases y:g<p.ns;rotate_left
 .have f:Hid (de p s=true):=abw dk.out H0.out dg.out dd.out V.out (λj hj=>Q.out j (by omega));clear r D T c1 c2 c3 c4 c5 c6 Q;go_wp2_with fail;go_ret;exact⟨by rw[f.out];rfl,d⟩
 obtain⟨b1,o1,e1,g1,z1⟩:=r.si.ints g (by rw[V.out.1];exact y);obtain⟨b2,o2,e2,g2,z2⟩:=r.so.ints g (by rw[V.out.2.1];exact y);obtain⟨b3,o3,e3,g3,z3⟩:=r.sf.ints g (by rw[V.out.2.2];exact y);have qq:(0:Int)<=(g:Int):=by omega
 rw[e1,V.out.1] at c4;rw[e2,V.out.2.1] at c5;rw[e3,V.out.2.2] at c6;have m:Hid (inB (s.si.z g) 0 1048576=false->de p s=false):=λh=>Rr (.inl (Gk V.out.1 y h));have u:Hid (inB (s.so.z g) 0 1048576=false->de p s=false):=λh=>Rr (.inr (.inl (Gk V.out.2.1 y h)));have a2:Hid (inB (s.sf.z g) (-1048576) 1048576=false->de p s=false):=λh=>Rr (.inr (.inr (Gk V.out.2.2 y h)));have a3:Hid (inB (s.si.z g) 0 1048576=true->inB (s.so.z g) 0 1048576=true->inB (s.sf.z g) (-1048576) 1048576=true->∀j',j'<g+1->Ml s j'=true):=λh1 h2 h3=>ws Q.out (by unfold Ml;rw[h1,h2,h3];rfl);clear e1 e2 e3 r D T c1 c2 c3 Q
 generalize s.si.z g=I1 at *
 generalize s.so.z g=I2 at *
 generalize s.sf.z g=I3 at *
 cases x:inB I1 0 1048576
 .have f:Hid (de p s=false):=m.out x;clear m u a2 a3;go_wp2_with(go_at_call 44;refine ag (cf _ _ _ _) ?_);go_ret;exact⟨by rw[f.out];rfl,d⟩
 cases E:inB I2 0 1048576
 .have f:Hid (de p s=false):=u.out E;clear m u a2 a3;go_wp2_with(go_at_call 44;refine ag (cf _ _ _ _) ?_);go_ret;exact⟨by rw[f.out];rfl,d⟩
 cases L:inB I3 (-1048576) 1048576
 .have f:Hid (de p s=false):=a2.out L;clear m u a2 a3;go_wp2_with(go_at_call 44;refine ag (cf _ _ _ _) ?_);go_ret;exact⟨by rw[f.out];rfl,d⟩
 have f:=a3.out x E L;have ao:Hid _:=f;clear m u a2 a3 f;go_wp2_with(go_at_call 44;refine ag (cf _ _ _ _) ?_);go_roundw
 case rel=>exact⟨g+1,by omega,by go_num,ao.out,B⟩
 case measure=>simp[intOf];omega
theorem Xj(h:4<s.os.n):gh s=true:=by
 have:decide (4<s.os.n)=true:=decide_eq_true h;simp[gh,this]
theorem Yn(h:8<s.ms.n):gh s=true:=by
 have:decide (8<s.ms.n)=true:=decide_eq_true h;simp[gh,this]
theorem Ye(hi:i<s.os.n)(h:inB (s.os.z i).ls.n 1 3=false):gh s=true:=by
 have:aw s.os.n (λi=>qd (s.os.z i))=true:=du hi (by unfold qd;rw[h];rfl);simp[gh,this]
theorem ab3(f:¬4<s.os.n)(c:¬8<s.ms.n)(b:∀i,i<s.os.n->inB (s.os.z i).ls.n 1 3=true):gh s=false:=by
 have a:decide (4<s.os.n)=false:=decide_eq_false f;have e:decide (8<s.ms.n)=false:=decide_eq_false c;have d:aw s.os.n (λi=>qd (s.os.z i))=false:=cu λi hi=>by unfold qd;rw[b i hi];rfl
 unfold gh;rw[a,e,d]
 rfl
theorem Y4(h:¬ey p s.on=0):ah p s=ey p s.on:=by unfold ah;rw[if_neg h]
theorem Ny(h:ey p s.on=0)(a:gh s=true):ah p s=2:=by unfold ah;rw[if_pos h,a];rfl
theorem aar(h:ey p s.on=0)(c:gh s=false)(a:de p s=false):ah p s=1:=by
 have e:(jh p s||gu p s||j9 p s||fo p s)=true:=by
  cases b:(jh p s||gu p s||j9 p s||fo p s)
  .rw[de,b] at a;cases a
  rfl
 unfold ah;rw[if_pos h,c,e];rfl
theorem Sd(h:ey p s.on=0)(c:gh s=false)(a:de p s=true):cw p s:=by
 have e:(jh p s||gu p s||j9 p s||fo p s)=false:=by
  cases b:(jh p s||gu p s||j9 p s||fo p s)
  .rfl
  rw[de,b] at a;cases a
 simp only[Xxq] at e;exact formed h c e.1.1.1 e.1.1.2 e.1.2 e.2
theorem abd(h:ey p s.on=0)(c:gh s=false)(a:de p s=true):ah p s=if jb p s then 0 else 7:=by
 have e:(jh p s||gu p s||j9 p s||fo p s)=false:=by
  cases b:(jh p s||gu p s||j9 p s||fo p s)
  .rfl
  rw[de,b] at a;cases a
 unfold ah jb;rw[if_pos h,c,e];cases (kw p s||jf s)<;>rfl
theorem lq(p:Pl)(s:St)(w:World)(hp:p.At w)(hs:s.At w):
  Calls prog 80 #[p.val,s.val] w λe w'=>e = .returned (.int .i64 (ah p s))/\Below w.heap.size w w':=by
 obtain⟨F,T,aj,X0⟩:=G9 w p s;have G:=F8 hp hs aj X0;have V:=hid T;have ar:=hs.os.le;have Q:=hs.os.cap;have au:=hs.ms.le;have S:=hs.ms.cap;unfold maxLen at Q S;clear T X0 hp hs;unfold Pl.val St.val;go_enter func80,ntmps80;go_wp2_with fail;rw[V.out];obtain⟨X,d,c,a⟩:=G.out F brf;refine(Jh p s.on F d c.on).mono ?_;rintro e w1 ⟨rfl,l⟩;clear X d c a V;obtain⟨X,d,c,a⟩:=G.out w1 l;obtain⟨⟨x,r,t⟩,v,u,c1,c2,c3,c4,c5,c6⟩:=X;by_cases D:ey p s.on=0;rotate_left
 .have g:Hid (ah p s=ey p s.on):=Y4 D;clear d c;go_wp2_with fail;go_ret;exact⟨by rw[g.out];rfl,a⟩
 have m:=hid D;rw[D];clear D d c;by_cases n1:4<s.os.n
 .have g:Hid (ah p s=2):=Ny m.out (Xj n1);have H:(4:Int)<(s.os.n:Int):=by omega
  go_wp2_with fail;go_ret;exact⟨by rw[g.out];rfl,a⟩
 by_cases n2:8<s.ms.n
 .have g:Hid (ah p s=2):=Ny m.out (Yn n2);have H:¬(4:Int)<(s.os.n:Int):=by omega
  have Y:(8:Int)<(s.ms.n:Int):=by omega
  go_wp2_with fail;go_ret;exact⟨by rw[g.out];rfl,a⟩
 have H:¬(4:Int)<(s.os.n:Int):=by omega
 have Y:¬(8:Int)<(s.ms.n:Int):=by omega
 go_wp2_with fail;clear u c1 c2 c3 c4 c5 c6 r t x v a
 go_loopw [6] (λi wk=>∃k:Nat,k<=s.os.n/\i = .int .i64 k/\(∀j,j<k->inB (s.os.z j).ls.n 1 3=true)/\Below F.heap.size F wk) (λi _=>s.os.n-(intOf i).toNat)
 case atStart=>exact⟨0,Qxz _,rfl,λj hj=>absurd hj (Qzq _),l⟩
 clear l;obtain⟨i,hi,rfl,J,l⟩:=hrel;have HN:=hid J;clear J;obtain⟨X,d,c,a⟩:=G.out wr l;obtain⟨⟨x,r,t⟩,v,u,c1,c2,c3,c4,c5,c6⟩:=X;by_cases L:i<s.os.n
 .obtain⟨b,o,K,hb,z0,z1,hl⟩:=c.os.ods i L;have qi:(0:Int)<=(i:Int):=by omega
  have y:Hid (inB (s.os.z i).ls.n 1 3=false->ah p s=2):=λh=>Ny m.out (Ye L h);have A:Hid (inB (s.os.z i).ls.n 1 3=true->∀j,j<i+1->inB (s.os.z j).ls.n 1 3=true):=λh=>ws (f:=λj=>inB (s.os.z j).ls.n 1 3) HN.out h;rw[K] at c1;clear K hl d c u c2 c3 c4 c5 c6 r t z0
  generalize (s.os.z i).ls=LS at *
  cases W:inB LS.n 1 3
  .have g:Hid (ah p s=2):=y.out W;clear y A;go_wp2_with(go_at_call 44;refine ag (cf _ _ _ _) ?_);go_ret;exact⟨by rw[g.out];rfl,a⟩
  have g:=A.out W;have U:Hid _:=g;clear y A g;go_wp2_with(go_at_call 44;refine ag (cf _ _ _ _) ?_);go_roundw
  case rel=>exact⟨i+1,by omega,by go_num,U.out,l⟩
  case measure=>simp[intOf];omega
 have q:Hid (gh s=false):=ab3 n1 n2 λj hj=>HN.out j (by omega);go_wp2_with fail;refine(Ue p s wr d c m.out q.out).mono ?_;rintro e w2 ⟨rfl,M⟩;have l:=l.trans (M.mono l.size);clear d c a x r t v u c1 c2 c3 c4 c5 c6 M;obtain⟨X,d,c,a⟩:=G.out w2 l;obtain⟨⟨x,r,t⟩,v,u,c1,c2,c3,c4,c5,c6⟩:=X;cases B:de p s
 .have g:Hid (ah p s=1):=aar m.out q.out B;clear d c;go_wp2_with fail;go_ret;exact⟨by rw[g.out];rfl,a⟩
 have ai:Hid (cw p s):=Sd m.out q.out B;have E:Hid (ah p s=if jb p s then 0 else 7):=abd m.out q.out B;clear B;go_wp2_with fail;refine(Uz p s w2 d c ai.out).mono ?_;rintro e w3 ⟨rfl,P⟩;have a:=a.trans (P.mono a.size);clear d c x r t v u c1 c2 c3 c4 c5 c6 P;cases k3:jb p s
 .have g:Hid (ah p s=7):=by show ah p s=7;rw[E.out,k3];rfl
  clear E;go_wp2_with fail;go_ret;exact⟨by rw[g.out];rfl,a⟩
 have g:Hid (ah p s=0):=by show ah p s=0;rw[E.out,k3];rfl
 clear E;go_wp2_with fail;go_ret;exact⟨by rw[g.out];rfl,a⟩
theorem Em{bin good n:Int}(h:¬ah p s=0):gw p s bin good n=ah p s:=by unfold gw;rw[if_neg h]
theorem ux{bin good n:Int}(h:ah p s=0)(a:(inB bin 0 ((p.nb:Int)-1)&&inB good 0 ((p.ns:Int)-1)&&inB n 1 200)=false):gw p s bin good n=3:=by unfold gw;rw[if_pos h,a];rfl
theorem Md{n:Int}(h:ah p s=0)(e:b<p.nb)(d:g<p.ns)(c:inB n 1 200=true)(a:gj p s b<n*p.zs g):gw p s b g n=5:=by
 unfold gw;simp only[Int.toNat_natCast];rw[if_pos h,bq (by omega),bq (by omega),c,if_pos (by decide),if_pos a]
theorem Lv{n:Int}(h:ah p s=0)(f:b<p.nb)(e:g<p.ns)(c:inB n 1 200=true)(a:¬gj p s b<n*p.zs g)(d:200<dx s b g+n\/1048576<s.si.z g+n):gw p s b g n=2:=by
 unfold gw;simp only[Int.toNat_natCast];rw[if_pos h,bq (by omega),bq (by omega),c,if_pos (by decide),if_neg a,if_pos d]
theorem Q1{n:Int}(h:ah p s=0)(f:b<p.nb)(e:g<p.ns)(c:inB n 1 200=true)(a:¬gj p s b<n*p.zs g)(d:¬(200<dx s b g+n\/1048576<s.si.z g+n)):gw p s b g n=0:=by
 unfold gw;simp only[Int.toNat_natCast];rw[if_pos h,bq (by omega),bq (by omega),c,if_pos (by decide),if_neg a,if_neg d]
theorem Py(f:cw p s)(a:b<p.nb): -30000<=gj p s b/\gj p s b<=1000:=by
 have d:b<s.on.n:=by rw[f.sh.n];exact a
 have g:=vt (z:=(s.on.r b).z) (zs:=p.zs) (n:=p.ns) (λj c=>⟨f.sh.num b d j c,f.sh.pl.sizes j c⟩) p.ns nlr;have e:=D0 f (b:Int) s.ms.n nlr;have room:0<=(p.zb b).room/\(p.zb b).room<=1000:=by
  have:=f.sh.pl.bins b a;simp only[qe,Xxq,Bool.not_eq_false'] at this;exact aq this.1.1
 have:=f.ms8;have:=f.sh.pl.ns3;unfold gj;omega
theorem Kn(p:Pl)(s:St)(bin good n:Int)(w:World)(hp:p.At w)(hs:s.At w):
  Calls prog 31 #[p.val,s.val,.int .i64 bin,.int .i64 good,.int .i64 n] w λe W=>∃s':St,e = .returned (.tuple #[s'.val,.int .i64 (gw p s bin good n)])/\s'.At W/\dv (gw p s bin good n) (li s bin.toNat good.toNat n) s'/\(gw p s bin good n=0->ai w.heap.size W s')/\Below w.heap.size w W:=by
 obtain⟨W0,hW,fg,X0,Z0⟩:=zd w p s;have HC:=wv hp hs fg X0 Z0;have HW:=hid hW;have leb:=hp.leb;have bq:=hp.capb;have les:=hp.les;have bs:=hp.caps;have capb:=bq;have caps:=bs;have f7:=Z0.lt;unfold maxLen at capb caps;clear hW X0 Z0 hp hs;unfold Pl.val St.val;go_enter func31,ntmps31;go_wp2_with fail;rw[HW.out];obtain⟨X,q,i,f,l⟩:=HC.out W0 brf;refine(lq p s W0 q i).mono ?_;rintro e w1 ⟨rfl,m⟩;clear X q i f l HW;obtain⟨⟨⟨l1,d0,d1⟩,l2,D,c1,c2,c3,c4,c5,c6⟩,q,i,f,l⟩:=HC.out w1 m;by_cases h0:ah p s=0;rotate_left
 .have E:Hid (gw p s bin good n=ah p s):=Em h0;clear q i D c1 c2 c3 c4 c5 c6;obtain⟨zl,aj,ak,U,zc1,al,zc2,ac,zc3,am,zc4,S,zc5,an,ad⟩:=z7 l;go_wp2_with fail;exact g9 results31 l f (by omega) E.out h0 rfl rfl rfl
 have H0:=hid h0;have F:Hid (cw p s):=(ew h0).fm;rw[h0];clear h0 D c1 c2 c3 c4 c5 c6 i;go_wp2_with fail;refine(zq p bin w1 leb bq).mono ?_;rintro e w2 ⟨rfl,J⟩;have m:=m.trans (J.mono m.size);clear l1 d0 d1 l2 q f l J;obtain⟨⟨⟨l1,d0,d1⟩,l2,D,c1,c2,c3,c4,c5,c6⟩,q,i,f,l⟩:=HC.out w2 m;clear D c1 c2 c3 c4 c5 c6 i;cases k1:inB bin 0 ((p.nb:Int)-1)
 .have E:Hid (gw p s bin good n=3):=ux H0.out (by rw[k1];rfl);clear k1;obtain⟨zl,aj,ak,U,zc1,al,zc2,ac,zc3,am,zc4,S,zc5,an,ad⟩:=z7 l;go_wp2_with fail;exact g9 results31 l f (by omega) E.out (by decide) rfl rfl rfl
 go_wp2_with fail;refine(ue p good w2 les bs).mono ?_;rintro e w3 ⟨rfl,J⟩;have m:=m.trans (J.mono m.size);clear l1 d0 d1 l2 q f l J;obtain⟨⟨⟨l1,d0,d1⟩,l2,D,c1,c2,c3,c4,c5,c6⟩,q,i,f,l⟩:=HC.out w3 m;cases k2:inB good 0 ((p.ns:Int)-1)
 .have E:Hid (gw p s bin good n=3):=ux H0.out (by rw[k1,k2];rfl);clear k1 k2 D c1 c2 c3 c4 c5 c6 i;obtain⟨zl,aj,ak,U,zc1,al,zc2,ac,zc3,am,zc4,S,zc5,an,ad⟩:=z7 l;go_wp2_with fail;exact g9 results31 l f (by omega) E.out (by decide) rfl rfl rfl
 cases k3:inB n 1 200
 .have E:Hid (gw p s bin good n=3):=ux H0.out (by rw[k1,k2,k3];rfl);clear k1 k2 D c1 c2 c3 c4 c5 c6 i;obtain⟨zl,aj,ak,U,zc1,al,zc2,ac,zc3,am,zc4,S,zc5,an,ad⟩:=z7 l;go_wp2_with(go_at_call 44;refine ag (cf _ _ _ _) ?_);exact g9 results31 l f (by omega) E.out (by decide) rfl rfl rfl
 obtain⟨b,rfl⟩:=Qzz (aq k1).1;obtain⟨g,rfl⟩:=Qzz (aq k2).1;have hb:b<p.nb:=by have:=(aq k1).2;omega
 have x:g<p.ns:=by have:=(aq k2).2;omega
 have hn:=aq k3;have K3:=hid k3;have pz:=F.out.sh.pl.sizes g x;have fb:=Py F.out hb;have mb:=Cw (a:=n) (b:=p.zs g) ⟨by omega,hn.2⟩ pz;have qb:(0:Int)<=(b:Int):=by omega
 have qg:(0:Int)<=(g:Int):=by omega
 obtain⟨bz,oz,ce,bv,y0⟩:=q.sizes g x;have t:=qa3 ce q i;rw[ce] at d1;have r0:=Qqq d0;have r1:=Qqq d1;have r2:=Qqq y0;have s0:=Qqq D;have s1:=Qqq c1;have s2:=Qqq c2;have s3:=Qqq c3;have s4:=Qqq c4;have s5:=Qqq c5;have s6:=Qqq c6;have dp:Hid (∀H,p.At H->s.At H->Calls prog 83 #[.agg #[.slice p.ab p.nb p.cb,.slice (some ⟨bz,oz,none⟩) p.ns p.cs],.agg #[.slice s.on.a s.on.n s.on.c,.slice s.os.a s.os.n s.os.c,.slice s.hs.a s.hs.n s.hs.c,.slice s.ms.a s.ms.n s.ms.c,.slice s.si.a s.si.n s.si.c,.slice s.so.a s.so.n s.so.c,.slice s.sf.a s.sf.n s.sf.c],.int .i64 b] H λe W=>e = .returned (.int .i64 (gj p s b))/\Below H.heap.size H W):=λH h1 h2=>by
  have:=Mm p s b H h1 h2 F.out hb;rw[Pl.val,t.out.1] at this;exact this
 have e0:Hid (gj p s b<n*p.zs g->gw p s b g n=5):=λh=>Md H0.out hb x K3.out h;have de:Hid (¬gj p s b<n*p.zs g->(200<dx s b g+n\/1048576<s.si.z g+n)->gw p s b g n=2):=λh h2=>Lv H0.out hb x K3.out h h2;have fi:Hid (¬gj p s b<n*p.zs g->¬(200<dx s b g+n\/1048576<s.si.z g+n)->gw p s b g n=0):=λh h2=>Q1 H0.out hb x K3.out h h2;clear k1 k2 ce q i D c1 c2 c3 c4 c5 c6 d0 d1 y0
 generalize gj p s b=FR at *
 generalize p.zs g=PZ at *
 go_wp2_with(go_at_call 44;refine ag (cf _ _ _ _) ?_);refine Qxq (by kernel_rfl) (by kernel_rfl) ?_
 repeat(go_big_quiet_step((go_at_call 83;exact Xxz (dp.out _ (t.out.2.1.below (Qxx _ _ _)) (t.out.2.2.below (Qxx _ _ _))))))
 refine Qqz ?_;intro _ Y;obtain⟨⟨dq,A⟩,L⟩:=Y;subst L;have m:=m.trans ((Qxx w3 dq A).mono m.size);clear r0 r1 r2 s0 s1 s2 s3 s4 s5 s6 dp t f l l1 l2 bv
 generalize grow (redrawn w3 dq) A=w4 at *
 obtain⟨⟨⟨l1,d0,d1⟩,l2,D,c1,c2,c3,c4,c5,c6⟩,q,i,f,l⟩:=HC.out w4 m;by_cases h5:FR<n*PZ
 .have E:Hid (gw p s b g n=5):=e0.out h5;clear q i D c1 c2 c3 c4 c5 c6;obtain⟨zl,aj,ak,U,zc1,al,zc2,ac,zc3,am,zc4,S,zc5,an,ad⟩:=z7 l;go_wp2_with fail;exact g9 results31 l f (by omega) E.out (by decide) rfl rfl rfl
 have a0:b<s.on.n:=by rw[F.out.sh.n];exact hb
 obtain⟨bo,oo,b8,gl,y0,a3⟩:=i.on.rows b a0;have K:=F.out.sh.len b a0;obtain⟨br,gh,dd,f9,y1⟩:=a3.ints g (by rw[K];exact x);obtain⟨bi,oi,cx,gd,y2⟩:=i.si.ints g (by rw[F.out.sin];exact x);have v1:=a3.le;have v2:=a3.cap;have v3:=i.on.le;have v4:=i.on.cap;have v5:=i.si.le;have v6:=i.si.cap;have u1:=F.out.sh.num b a0 g x;have u2:=lj (s:=s) (b:=b) (g:=g) F.out.moveN;have u3:=F.out.sib g x;have ms8:=F.out.ms8;have ge:g<s.si.n:=by rw[F.out.sin];exact x
 unfold maxLen at v2 v4 v6;have t:=qa3 i b8 cx;rw[dd,K] at y0;rw[K] at v1;rw[b8] at D;rw[cx] at c4;have s0:=Qqq D;have s1:=Qqq c1;have s2:=Qqq c2;have s3:=Qqq c3;have s4:=Qqq c4;have s5:=Qqq c5;have s6:=Qqq c6;have r1:=Qqq y0;have r2:=Qqq y1;have r3:=Qqq y2;have a1:Hid (∀H,s.At H->Calls prog 84 #[.agg #[.slice (some ⟨bo,oo,none⟩) s.on.n s.on.c,.slice s.os.a s.os.n s.os.c,.slice s.hs.a s.hs.n s.hs.c,.slice s.ms.a s.ms.n s.ms.c,.slice (some ⟨bi,oi,none⟩) s.si.n s.si.c,.slice s.so.a s.so.n s.so.c,.slice s.sf.a s.sf.n s.sf.c],.int .i64 b,.int .i64 g] H λe W=>e = .returned (.int .i64 (bp s b g s.ms.n))/\Below H.heap.size H W):=λH h=>by
  have:=Cf p s b g H h F.out;rw[St.val,t.out.2.1,t.out.2.2] at this;exact this
 have dn:Hid (dx s b g=(s.on.r b).z g+bp s b g s.ms.n):=rfl;have cm:0<=bp s b g s.ms.n/\bp s b g s.ms.n<=1600:=by omega
 have fc:Hid (li s b g n=setIn (setOn s b g ((s.on.r b).z g+n)) g (s.si.z g+n)):=rfl;clear b8 dd cx a3 K q i D c1 c2 c3 c4 c5 c6 y0 y1 y2 d0 d1 u2
 generalize bp s b g s.ms.n=CM at *
 generalize a7:(s.on.r b).z g=M at *
 have fk:=hid a7;clear a7
 generalize (s.on.r b).c=RC at *
 generalize a6:s.si.z g=Q at *
 have dc:=hid a6;clear a6;by_cases h6:200<M+CM+n
 .have E:Hid (gw p s b g n=2):=de.out (by omega) (.inl (by rw[dn.out];exact h6));have d6:decide (200<M+CM+n)=true:=decide_eq_true h6;go_wp2_with fail;refine Qxq (by kernel_rfl) (by kernel_rfl) ?_
  repeat(go_big_quiet_step((go_at_call 84;exact Xxz (a1.out _ (t.out.1.below (Qxx _ _ _))))))
  refine Qqz ?_;intro _ Y;obtain⟨⟨dq,A⟩,L⟩:=Y;subst L;have m:=m.trans ((Qxx w4 dq A).mono m.size);clear r1 r2 r3 s0 s1 s2 s3 s4 s5 s6 a1 t f l l1 l2
  generalize grow (redrawn w4 dq) A=w5 at *
  obtain⟨-,-,-,f,l⟩:=HC.out w5 m;obtain⟨zl,aj,ak,U,zc1,al,zc2,ac,zc3,am,zc4,S,zc5,an,ad⟩:=z7 l;go_wp2_with fail;exact g9 results31 l f (by omega) E.out (by decide) rfl rfl rfl
 by_cases h7:1048576<Q+n
 .have E:Hid (gw p s b g n=2):=de.out (by omega) (.inr h7);have d6:decide (200<M+CM+n)=false:=decide_eq_false h6;have d7:decide (1048576<Q+n)=true:=decide_eq_true h7;go_wp2_with fail;refine Qxq (by kernel_rfl) (by kernel_rfl) ?_
  repeat(go_big_quiet_step((go_at_call 84;exact Xxz (a1.out _ (t.out.1.below (Qxx _ _ _))))))
  refine Qqz ?_;intro _ Y;obtain⟨⟨dq,A⟩,L⟩:=Y;subst L;have m:=m.trans ((Qxx w4 dq A).mono m.size);clear r1 r2 r3 s0 s1 s2 s3 s4 s5 s6 a1 t f l l1 l2
  generalize grow (redrawn w4 dq) A=w5 at *
  obtain⟨-,-,-,f,l⟩:=HC.out w5 m;obtain⟨zl,aj,ak,U,zc1,al,zc2,ac,zc3,am,zc4,S,zc5,an,ad⟩:=z7 l;go_wp2_with fail;exact g9 results31 l f (by omega) E.out (by decide) rfl rfl rfl
 have E:Hid (gw p s b g n=0):=fi.out (by omega) (by rw[dn.out];omega);have d6:decide (200<M+CM+n)=false:=decide_eq_false h6;have d7:decide (1048576<Q+n)=false:=decide_eq_false h7;go_wp2_with fail;refine Qxq (by kernel_rfl) (by kernel_rfl) ?_
 repeat(go_big_quiet_step((go_at_call 84;exact Xxz (a1.out _ (t.out.1.below (Qxx _ _ _))))))
 refine Qqz ?_;intro _ Y;obtain⟨⟨dq,A⟩,L⟩:=Y;subst L;have m:=m.trans ((Qxx w4 dq A).mono m.size);clear r1 r2 r3 s0 s1 s2 s3 s4 s5 s6 a1 t f l l1 l2
 generalize grow (redrawn w4 dq) A=w5 at *
 obtain⟨⟨⟨l1,d0,d1⟩,l2,D,c1,c2,c3,c4,c5,c6⟩,q,i,f,l⟩:=HC.out w5 m;go_wp2_with fail;have dy:=hid f.size;refine(pr p s w5 i F.out).mono ?_;rintro e w6 ⟨o,rfl,u,cg,J⟩;have a2:b<o.on.n:=by rw[u.on.1];exact a0
 obtain⟨x1,x2⟩:=u.on.2 b a2;have K:(o.on.r b).n=p.ns:=by rw[x1];exact F.out.sh.len b a0
 have a7:(o.on.r b).z g=M:=by rw[x2 g (by rw[K];exact x)];exact fk.out
 have bg:o.si.n=p.ns:=by rw[u.si.1];exact F.out.sin
 have a6:o.si.z g=Q:=by rw[u.si.2 g (by rw[bg];exact x)];exact dc.out
 have bu:=hid bg;have cj:=hid u;have e2:Hid (ae (setIn (setOn o b g (M+n)) g (Q+n)) (li s b g n)):=by
  show ae _ (li s b g n);rw[fc.out];exact Fc (xr u _ _ _) _ _
 obtain⟨W7,dj,bl,K7⟩:=ab7 w6 o;have dm:=hid dj;obtain⟨dh,bm⟩:∃B,w6.heap.size=B:=⟨_,rfl⟩;have q6:=m.size;have q7:=J.size;have gf:W0.heap.size<=dh:=by omega
 rw[bm] at K7;have ca:=hid bm;have dg:=(m.trans (J.mono m.size)).trans (bl.mono (m.trans (J.mono m.size)).size);have P:=ai.below cg bl;obtain⟨gg,ga,gA,g1,g2,gk⟩:=P.on;obtain⟨Gb,ra,rA,eo,fh,rk⟩:=P.rows b a2;obtain⟨Gi,ia,iA,ey,ff,T⟩:=P.si;have eh:=qa7 P ga ra ia rA iA K7;obtain⟨m7,p0,p1,p2,p3,p4,p5,p6⟩:=Boxed.of K7;rw[ga] at p0;rw[ia] at p4;have y0:=gk.cell (j:=b) a2;rw[ra,K] at y0;have y1:=rk.cell (j:=g) (by rw[K];exact x);rw[a7] at y1;have y2:=T.cell (j:=g) (by rw[bg];exact x);rw[a6] at y2;have t0:=Qqq p0;have t1:=Qqq y0;have t2:=Qqq y1;have v1:=g1;have v2:=g2;have v3:=eo;have v4:=fh;rw[K] at v3;unfold maxLen at v2 v4;unfold maxLen at ff;rw[bg] at ey;clear P cg gk rk T K7 bl dj bm p0 p1 p2 p3 p4 p5 p6 y0 y1 y2 ga ra ia q i D c1 c2 c3 c4 c5 c6 x1 x2 J l f a7 a6 u K bg;simp only[St.val];go_wp2_with fail;rw[dm.out,ca.out];clear dm ca;refine jt (λW=>∃p:Regrown,W=grow (redrawn W7 p.d) p.os) (List.range 17) [] [(true,17)] (Qqx (brf.drew)) ?_;rw[show List.range 17=[0,1,2,3,4,5,6,7,8,9,10,11,12,13,14,15,16] from rfl];simp only[dw,Qyq,Xqq,Qyx,Qyz,Xqz,Xqx]
 repeat(go_big_quiet_step(fail))
 refine Qqz ?_;clear t0 t1 t2;refine⟨λ_ _ _ _=>True,Qjq _,Qjq _,Qjq _,λV G H hS _ _ => ?_⟩;have hX:=af hS;obtain⟨hO,ev,cr,ba,gc,gb,hK⟩:=eh.out;have hO:=ai.below hO hX;have hK:=hK.below hX;obtain⟨Gq,y,_,_,_,rk⟩:=hO.rows b a2;rw[cr] at y;simp only[Qkx,Qkz,and_true] at y;subst y;have zl:=rk.lt;have zf:=rk.frozen g;have em:Hid ((o.on.r b).n=p.ns):=(cj.out.on.2 b a2).1.trans (F.out.sh.len b a0);have zc:=rk.cell (j:=g) (by rw[em.out];exact x);have q8:=hX.size;have di:=dg.trans (hX.mono dg.size);have q9:=m.size;have bb:=di.setCell (p:=⟨Gb,g,none⟩) (by show W0.heap.size<=Gb;omega) (.int .i64 (M+n));have bf:=ai.setOn hO a2 cr g (M+n);have bh:=hK.other (a:=⟨Gb,g,none⟩) (Blk.ne2 hK rk (by decide)) (.int .i64 (M+n));have cp:=qa3 bb bf bh;clear bb bf bh hO hK rk hX di hS;simp only[ap];refine dk 17 rfl ?_;go_wp2_with fail;refine⟨jq.yes,?_⟩;refine NoPanic.normal ?_
 generalize H.setCell { block:=Gb,off:=g } (Value.int IntKind.i64 (M+n))=W9 at *
 clear zl zf zc;obtain⟨be,a8,bc⟩:=cp.out;obtain⟨Gq,y,_,_,_,T⟩:=a8.si;rw[show(setOn o b g (M+n)).si.a=some ⟨Gi,0,none⟩ from ba] at y;simp only[Qkx,Qkz,and_true] at y;subst y;have y2:=T.cell (j:=g) (by show g<o.si.n;rw[bu.out];exact x);have p4:=bc.k 4;have ci:W9.cell? ⟨dh,4,none⟩=some (.slice o.si.a o.si.n o.si.c):=p4;rw[ba,bu.out] at ci;have e1:Hid (o.si.z g=Q):=(cj.out.si.2 g (by rw[bu.out];exact x)).trans dc.out;have b9:W9.cell? ⟨Gi,g,none⟩=some (.int .i64 (o.si.z g)):=y2;rw[e1.out] at b9;have t0:=Qqq ci;have t1:=Qqq b9;clear be a8 bc T y2 p4 ci b9;go_wp2_with fail;refine jt (λW=>∃p:Regrown,W=grow (redrawn W9 p.d) p.os) (List.range 11) [] [(true,11)] (Qqx (brf.drew)) ?_;rw[show List.range 11=[0,1,2,3,4,5,6,7,8,9,10] from rfl];simp only[dw,Qyq,Xqq,Qyx,Qyz,Xqz,Xqx]
 repeat(go_big_quiet_step(fail))
 refine Qqz ?_;clear t0 t1;refine⟨λ_ _ _ _=>True,Qjq _,Qjq _,Qjq _,λV G e9 hS _ _ => ?_⟩;have hX:=af hS;obtain⟨be,a8,bc⟩:=cp.out;have hO:=ai.below a8 hX;have hK:=bc.below hX;have cc:=be.trans (hX.mono be.size);obtain⟨Gq,y,_,_,_,T⟩:=hO.si;rw[show(setOn o b g (M+n)).si.a=some ⟨Gi,0,none⟩ from ba] at y;simp only[Qkx,Qkz,and_true] at y;subst y;have zl:=T.lt;have zf:=T.frozen g;have zc:=T.cell (j:=g) (by show g<o.si.n;rw[bu.out];exact x);have bb:=cc.setCell (p:=⟨Gi,g,none⟩) (by show W0.heap.size<=Gi;omega) (.int .i64 (Q+n));have bf:=ai.setIn hO (show(setOn o b g (M+n)).si.a=some ⟨Gi,0,none⟩ from ba) g (Q+n);have bh:=hK.other (a:=⟨Gi,g,none⟩) (Blk.ne2 hK T (by decide)) (.int .i64 (Q+n));have df:=qa3 bb bf bh;clear bb bf bh hO hK T hX cc hS be a8 bc cp;simp only[ap];refine dk 11 rfl ?_;go_wp2_with fail;refine⟨jq.yes,?_⟩;refine NoPanic.normal ?_
 generalize e9.setCell { block:=Gi,off:=g } (Value.int IntKind.i64 (Q+n))=dl at *
 clear zl zf zc;obtain⟨bt,b7,ct⟩:=df.out;obtain⟨_,_,_,f,l⟩:=HC.out dl bt;obtain⟨m8,p0,p1,p2,p3,p4,p5,p6⟩:=Boxed.of ct;obtain⟨zl,aj,ak,U,zc1,al,zc2,ac,zc3,am,zc4,S,zc5,an,ad⟩:=z7 l;clear bt b7 ct f l ev cr ba hO hK;go_wp2_with fail;obtain⟨bt,b7,ct⟩:=df.out;obtain⟨_,_,_,f,l⟩:=HC.out dl bt;have KZ:=s7b l o;have bv:=s7w (b:=w.heap.size+2) f (by omega) o;have cv:=s7o b7 l o;unfold set7 at KZ bv cv;obtain⟨ek,e3,fj,e5,ez,e4,et⟩:=co KZ;refine Xzq (v := .tuple #[(setIn (setOn o b g (M+n)) g (Q+n)).val,.int .i64 0]) (by simp[results,results31,go_sem,setIn,setOn,ku,St.val,ek,e3,fj,e5,ez,e4,et]) rfl ?_;exact⟨setIn (setOn o b g (M+n)) g (Q+n),by rw[E.out];rfl,cv.at,⟨λ_=>e2.out,λh=>absurd E.out h⟩,λ_=>cv.mono dy.out,bv⟩
structure Zq(A:Nat)(w:World)(s:Sh):Prop where
 on:∃g,s.a=some ⟨g,0,none⟩/\A<=g/\s.n<=s.c/\s.c<=maxLen/\Blk w g 23 s.n (λi => .slice (s.r i).a (s.r i).n (s.r i).c)
 rows:∀i,i<s.n->j6 A w (s.r i)
 rapart:∀i j,i<j->j<s.n->(s.r i).a≠(s.r j).a
theorem La(p:Pl)(s:Sh)(bin good n:Int)(w:World)(hp:p.At w)(hs:s.At w)(c:Eg p s bin good n=0):
  Calls prog 52 #[p.val,s.val,.int .i64 bin,.int .i64 good,.int .i64 n] w λe w'=>∃J:Sh,e = .returned (.tuple #[J.val,.int .i64 0])/\Zq w.heap.size w' J/\J.n=s.n/\(∀i,i<s.n->(J.r i).n=(s.r i).n/\∀j,j<(s.r i).n->(J.r i).z j=El s bin good n i j)/\Below w.heap.size w w':=by
 have L:Below w.heap.size w (w.alloc (.cells #[.slice p.ab p.nb p.cb,.slice p.sa p.ns p.cs] 25)):=(Below.refl w.heap.size w).alloc nlr _;simp only[Pl.val,Sh.val];have av:=hs.le;have u:=hs.cap;have ad:=u;unfold maxLen at ad;have T:s.n<=maxLen:=Qzx av u;have les:=hp.les;have t:=hp.caps;have al:p.ns<=maxLen:=Qzx les t;have caps:=t;unfold maxLen at caps;go_enter func52,ntmps52;go_wp2_with fail;refine(xt p s _ (hp.below L) (hs.below L)).mono ?_;rintro e X ⟨rfl,Y⟩;have d:=L.trans (Y.mono (by simp));have a4:w.heap.size<X.heap.size:=by have:=Y.size;simp at this;omega
 have c1:X.cell? ⟨w.heap.size,1,none⟩=some (.slice p.sa p.ns p.cs):=(Y.cell (p:=⟨w.heap.size,1,none⟩) (by simp)).trans (by simp);have F:ey p s=0:=by
  apply Classical.byContradiction
  intro F;have y:t9 p s bin good=ey p s:=by simp[t9,F]
  simp[Eg,y,F] at c
 have y:=Ej (bin:=bin) (good:=good) F;have D:inB bin 0 ((s.n:Int)-1)=true:=by
  cases D:inB bin 0 ((s.n:Int)-1)
  .simp[Eg,y,D] at c
  rfl
 have K:inB good 0 ((p.ns:Int)-1)=true:=by
  cases K:inB good 0 ((p.ns:Int)-1)
  .simp[Eg,y,D,K] at c
  rfl
 have V:t9 p s bin good=0:=by simp[y,D,K]
 clear y;obtain⟨m,rfl⟩:=Qzz (aq D).1;obtain⟨q,rfl⟩:=Qzz (aq K).1;have A:m<s.n:=by have:=(aq D).2;omega
 have hq:q<p.ns:=by have:=(aq K).2;omega
 obtain⟨pl,hn,k,E⟩:=(ts F).2;have hz:=E m A q hq;have hl:=k m A;have h6:=pl.nb6;rw[<-hn] at h6;have am:Hid (∀i,i<s.n->1<=(s.r i).n/\(s.r i).n<=3):=λi hi=>by rw[k i hi];exact⟨pl.ns1,pl.ns3⟩
 have S:=hs.below d;have m1:(0:Int)<=(m:Int):=by omega
 have m2:(0:Int)<=(q:Int):=by omega
 obtain⟨b,o,ha,hb,z0,v⟩:=S.rows m A;obtain⟨b1,o1,Q,a6,y0⟩:=v.ints q (by omega);rw[Q] at z0;have aw:q<(s.r m).n:=by omega
 have a5:=v.le;have ae:=v.cap;unfold maxLen at ae;have W:inB n (-((s.r m).z q)) (200-(s.r m).z q)=true:=by
  cases W:inB n (-((s.r m).z q)) (200-(s.r m).z q)
  .simp[Eg,V,W] at c
  rfl
 clear c;clear pl hn k E Q v V hl;obtain⟨s0,M,sc,l⟩:=s;dsimp only at *;subst ha;go_wp2_with(first|(go_at_call_of 47 (Value.int .i64 (m:Int));refine ag (dm _ _ _ T) ?_)|(go_at_call_of 47 (Value.int .i64 (q:Int));refine ag (dm _ _ _ al) ?_)|(go_at_call 48;refine ag (cn _ _ _ _) ?_));refine(Ip ⟨some ⟨b,o,none⟩,M,sc,l⟩ X S h6 am.out).mono ?_;rintro e w2 ⟨g,G,C,rfl,hg,x,B,f,ao⟩;dsimp only at x B f ⊢;obtain⟨g1,g2,g3,g4⟩:=B m A;have d0:=x.cell A;have d1:=g4.cell aw;have d2:=g4.frozen q;have a3:=aq W;unfold maxLen at g3;have ap:=d.trans (ao.mono d.size);have aj:w.heap.size<=G m:=by have:=d.size;omega
 have st:=ap.setCell (p:=⟨G m,q,none⟩) aj (.int .i64 ((l m).z q+n));have HH:Hid _:=And.intro x (And.intro B f);clear x B f c1 y0 z0;go_wp2_with fail
 go_ret2
 obtain⟨x,B,f⟩:=HH.out;refine⟨⟨some ⟨g,0,none⟩,M,M,λi=>⟨some ⟨G i,0,none⟩,(l i).n,C i,λj=>El ⟨some ⟨b,o,none⟩,M,sc,l⟩ m q n i j⟩⟩,rfl,⟨⟨g,rfl,?_,Nat.le_refl _,T,?_⟩,?_,?_⟩,rfl,λi hi=>⟨rfl,λj P=>rfl⟩,st⟩
 .have:=d.size;omega
 .exact x.other (a:=⟨G m,q,none⟩) (by show g≠G m;omega) (.int .i64 ((l m).z q+n))
 rotate_left
 .intro i j ai P h;have:=f i j ai P;simp only[Qkx,Qkz,and_true] at h;omega
 intro i hi;have gi:=B i hi;refine⟨G i,rfl,?_,gi.2.1,gi.2.2.1,?_⟩
 .have:=d.size;omega
 by_cases H:i=m
 .subst H;refine(gi.2.2.2.set q (.int .i64 ((l i).z q+n))).congr λj P => ?_;by_cases U:j=q
  .subst U;simp[El]
  simp[El,U]
 have aa:G i≠G m:=by
  rcases Nat.lt_or_gt_of_ne H with h|h
  .have:=f i m h A;omega
  have:=f m i h hi;omega
 refine(gi.2.2.2.other (a:=⟨G m,q,none⟩) aa (.int .i64 ((l m).z q+n))).congr λj P => ?_;simp[El,H]
theorem It(p:Pl)(s:St)(bin good:Nat)(w:World)(hs:s.At w)(f:cw p s)(aj:bin<p.nb)(S:good<p.ns):
  Calls prog 50 #[s.val,.int .i64 bin,.int .i64 good] w λe w'=>e = .returned (.int .i64 (dx s bin good))/\Below w.heap.size w w':=by
 obtain⟨d,W,K,D⟩:∃d,w.alloc (.cells s.cells 31)=d/\Below w.heap.size w d/\Blk d w.heap.size 31 7 (λj=>s.cells.getD j default):=⟨_,rfl,(Below.refl w.heap.size w).alloc nlr _,Blk.mk' rfl rfl⟩;have g:=hs.below K;have E:bin<s.on.n:=by rw[f.sh.n];exact aj
 obtain⟨bo,oo,v,Y,y0,m⟩:=g.on.rows bin E;have A:=f.sh.len bin E;have aw:=f.sh.num bin E good S;obtain⟨br,a5,ab,ad,y1⟩:=m.ints good (by omega);have af:=m.le;have M:=m.cap;have a3:=g.on.le;have P:=g.on.cap;unfold maxLen at M P;rw[ab,A] at y0;rw[A] at af;have c0:d.cell? ⟨w.heap.size,0,none⟩=some (.slice s.on.a s.on.n s.on.c):=D.k 0;rw[v] at c0;have l0:=D.lt;have a6:=hid v;have b0:(0:Int)<=(bin:Int):=by omega
 have g0:(0:Int)<=(good:Int):=by omega
 have ap:Hid (∀k,k=s.ms.n->dx s bin good=(s.on.r bin).z good+bp s bin good k):=λk L=>by subst L;rfl
 have HC:Hid (∀x,Below d.heap.size d x->s.At x/\x.cell? ⟨w.heap.size,3,none⟩=some (.slice s.ms.a s.ms.n s.ms.c)/\w.heap.size<x.heap.size):=
  λx h=>⟨g.below h,(D.below h).k 3,(D.below h).lt⟩
 have av:=g.ms.le;have T:=g.ms.cap;unfold maxLen at T;have m8:=f.ms8;have MB:Hid (∀k,k<=s.ms.n->0<=bp s bin good k/\bp s bin good k<=200*k):=λk L=>lj λj hj=>f.moveN j (by omega);have HW:Hid (w.alloc (.cells #[.slice (some ⟨bo,oo,none⟩) s.on.n s.on.c,.slice s.os.a s.os.n s.os.c,.slice s.hs.a s.hs.n s.hs.c,.slice s.ms.a s.ms.n s.ms.c,.slice s.si.a s.si.n s.si.c,.slice s.so.a s.so.n s.so.c,.slice s.sf.a s.sf.n s.sf.c] 31)=d):=by show _=d;rw[<-W,St.cells,v]
 have X:=y0;have V:=y1;have H:=Y;have F:=ad;rw[<-HW.out] at X V H F;simp only[St.val,v];clear D W m hs g;clear v ab c0 l0 y0 y1 Y ad A
 generalize (s.on.r bin).z good=ON at *
 go_enter func50,ntmps50;go_wp2_with fail;rw[HW.out];clear X V H F
 go_loopw [7,21] (λu i x=>∃k:Nat,k<=s.ms.n/\i = .int .i64 k/\u = .int .i64 (ON+bp s bin good k)/\Below d.heap.size d x) (λ_ i _=>s.ms.n-(intOf i).toNat)
 case atStart=>exact⟨0,Qxz _,rfl,by simp[bp],Below.refl _ _⟩
 obtain⟨k,L,rfl,rfl,Q⟩:=hrel;have m2:=MB.out k L;obtain⟨ae,c3,ak⟩:=HC.out wr Q;by_cases B:k<s.ms.n;rotate_left
 .have al:k=s.ms.n:=by omega
  subst al;go_wp2_with fail;go_ret;exact⟨by rw[ap.out _ rfl];rfl,K.trans (Q.mono K.size)⟩
 obtain⟨b,q,aa,hb,z0,z1,z2,z3⟩:=ae.ms.hds k B;have m3:=f.moveN k B;have y:Hid (((s.ms.z k).b=bin/\(s.ms.z k).o=good->bp s bin good (k+1)=bp s bin good k+(s.ms.z k).n)/\(¬((s.ms.z k).b=bin/\(s.ms.z k).o=good)->bp s bin good (k+1)=bp s bin good k)):=⟨λh=>Dd h.1 h.2,yu⟩;have q4:(0:Int)<=(k:Int):=by omega
 rw[aa];obtain⟨W1,ac,J⟩:∃W1,wr.alloc (.cells #[.int .i64 (s.ms.z k).o,.int .i64 (s.ms.z k).l,.int .i64 (s.ms.z k).b,.int .i64 (s.ms.z k).n] 77)=W1/\Below d.heap.size d W1:=⟨_,rfl,Q.alloc Q.size _⟩;have HV:=hid ac;clear aa ae ac c3 ak
 generalize bp s bin good k=U at *
 generalize (s.ms.z k).b=BB at *
 generalize (s.ms.z k).n=NN at *
 generalize (s.ms.z k).l=LL at *
 generalize (s.ms.z k).o=GD at *
 cases h1:(BB==(bin:Int))
 .have t:=y.out.2 (by simp at h1;omega);have G:=hid t;clear t y;go_wp2_with fail;rw[HV.out];go_roundw
  case rel=>exact⟨k+1,by omega,by go_num,by rw[G.out],J⟩
  case measure=>simp[intOf];omega
 cases h2:(GD==(good:Int))
 .have t:=y.out.2 (by simp at h2;omega);have G:=hid t;clear t y;go_wp2_with fail;rw[HV.out];go_roundw
  case rel=>exact⟨k+1,by omega,by go_num,by rw[G.out],J⟩
  case measure=>simp[intOf];omega
 have t:=y.out.1 ⟨by simpa using h1,by simpa using h2⟩;have G:=hid t;clear t y;go_wp2_with fail;rw[HV.out];go_roundw
 case rel=>exact⟨k+1,by omega,by go_num,by rw[G.out];congr 1;omega,J⟩
 case measure=>simp[intOf];omega
theorem ai.swap{B:Nat}{w0:World}{o:St}{r:Sh}(h:ai A w0 o)(n:Below w0.heap.size w0 w)(d:Zq B w r)(z:w0.heap.size<=B)(s:A<=B):ai A w ⟨r,o.os,o.hs,o.ms,o.si,o.so,o.sf⟩:=by
 have k:=ai.below h n;obtain⟨y,a1,-,-,-,l⟩:=h.si;obtain⟨q,m,-,-,-,f⟩:=h.so;obtain⟨x,j,-,-,-,p⟩:=h.sf;have v:=l.lt;have t:=f.lt;have u:=p.lt;refine⟨?_,λi hi => ?_,d.rapart,k.os,k.hs,k.ms,k.msr,k.si,k.so,k.sf,k.aio,k.aif,k.aof,λi hi => ?_⟩
 .obtain⟨g,b,e,c⟩:=d.on;exact⟨g,b,by omega,c⟩
 .obtain⟨g,b,e,c⟩:=d.rows i hi;exact⟨g,b,by omega,c⟩
 obtain⟨g,b,e,c⟩:=d.rows i hi;show(r.r i).a≠o.si.a/\(r.r i).a≠o.so.a/\(r.r i).a≠o.sf.a;rw[b,a1,m,j];simp only[ne_eq,Qkx,Qkz,and_true];omega
theorem Np(p:Pl)(s:St)(bin good n:Int)(w:World)(hp:p.At w)(hs:s.At w):
  Calls prog 17 #[p.val,s.val,.int .i64 bin,.int .i64 good,.int .i64 n] w λe w'=>∃s':St,e = .returned (.tuple #[s'.val,.int .i64 (gw p s bin good n)])/\s'.At w'/\dv (gw p s bin good n) (li s bin.toNat good.toNat n) s'/\(gw p s bin good n=0->ai w.heap.size w' s')/\Below w.heap.size w w':=by
 obtain⟨W0,hW,de,X0,Z0⟩:=zd w p s;have HC:=wv hp hs de X0 Z0;have HW:=hid hW;have leb:=hp.leb;have au:=hp.capb;have les:=hp.les;have av:=hp.caps;have capb:=au;have caps:=av;have ei:=Z0.lt;unfold maxLen at capb caps;clear hW X0 Z0 hp hs;unfold Pl.val St.val;go_enter func17,ntmps17;go_wp2_with fail;rw[HW.out];obtain⟨X,l,d,m,q⟩:=HC.out W0 brf;refine(lm p s W0 l d).mono ?_;rintro e w1 ⟨rfl,F⟩;clear X l d m q HW;obtain⟨⟨⟨l1,d0,d1⟩,l2,E,c1,c2,c3,c4,c5,c6⟩,l,d,m,q⟩:=HC.out w1 F;have aw:p.nb<=maxLen:=Qzx leb au;have ax:p.ns<=maxLen:=Qzx les av;by_cases h0:ah p s=0;rotate_left
 .have A:Hid (gw p s bin good n=ah p s):=Em h0;clear l d E c1 c2 c3 c4 c5 c6;obtain⟨zl,Q,S,T,zc1,U,zc2,K,zc3,V,zc4,L,zc5,W,P⟩:=z7 q;go_wp2_with fail;exact g9 results17 q m (by omega) A.out h0 rfl rfl rfl
 have H0:=hid h0;have x:Hid (cw p s):=(ew h0).fm;rw[h0];clear h0;cases k1:inB bin 0 ((p.nb:Int)-1)
 .have A:Hid (gw p s bin good n=3):=ux H0.out (by rw[k1];rfl);clear E c1 c2 c3 c4 c5 c6 l d;obtain⟨zl,Q,S,T,zc1,U,zc2,K,zc3,V,zc4,L,zc5,W,P⟩:=z7 q;go_wp2_with(first|(go_at_call_of 47 (Value.int .i64 bin);refine ag (dm _ _ _ aw) ?_)|(go_at_call_of 47 (Value.int .i64 good);refine ag (dm _ _ _ ax) ?_)|(go_at_call 48;refine ag (cn _ _ _ _) ?_));exact g9 results17 q m (by omega) A.out (by decide) rfl rfl rfl
 cases k2:inB good 0 ((p.ns:Int)-1)
 .have A:Hid (gw p s bin good n=3):=ux H0.out (by rw[k1,k2];rfl);clear E c1 c2 c3 c4 c5 c6 l d;obtain⟨zl,Q,S,T,zc1,U,zc2,K,zc3,V,zc4,L,zc5,W,P⟩:=z7 q;go_wp2_with(first|(go_at_call_of 47 (Value.int .i64 bin);refine ag (dm _ _ _ aw) ?_)|(go_at_call_of 47 (Value.int .i64 good);refine ag (dm _ _ _ ax) ?_)|(go_at_call 48;refine ag (cn _ _ _ _) ?_));exact g9 results17 q m (by omega) A.out (by decide) rfl rfl rfl
 cases k3:inB n 1 200
 .have A:Hid (gw p s bin good n=3):=ux H0.out (by rw[k1,k2,k3];rfl);clear E c1 c2 c3 c4 c5 c6 l d;obtain⟨zl,Q,S,T,zc1,U,zc2,K,zc3,V,zc4,L,zc5,W,P⟩:=z7 q;go_wp2_with(first|(go_at_call_of 47 (Value.int .i64 bin);refine ag (dm _ _ _ aw) ?_)|(go_at_call_of 47 (Value.int .i64 good);refine ag (dm _ _ _ ax) ?_)|(go_at_call 48;refine ag (cn _ _ _ _) ?_));exact g9 results17 q m (by omega) A.out (by decide) rfl rfl rfl
 obtain⟨b,rfl⟩:=Qzz (aq k1).1;obtain⟨g,rfl⟩:=Qzz (aq k2).1;have hb:b<p.nb:=by have:=(aq k1).2;omega
 have G:g<p.ns:=by have:=(aq k2).2;omega
 have hn:=aq k3;have K3:=hid k3;have pz:=x.out.sh.pl.sizes g G;have fb:=Py x.out hb;have mb:=Cw (a:=n) (b:=p.zs g) ⟨by omega,hn.2⟩ pz;have qb:(0:Int)<=(b:Int):=by omega
 have qg:(0:Int)<=(g:Int):=by omega
 have a8:=qa2 l d;clear l d;go_wp2_with(first|(go_at_call_of 47 (Value.int .i64 (b:Int));refine ag (dm _ _ _ aw) ?_)|(go_at_call_of 47 (Value.int .i64 (g:Int));refine ag (dm _ _ _ ax) ?_)|(go_at_call 48;refine ag (cn _ _ _ _) ?_));refine(Qa p s b w1 a8.out.1 a8.out.2).mono ?_;rintro e w2 ⟨rfl,H⟩;have F:=F.trans (H.mono F.size);clear l1 d0 d1 l2 E c1 c2 c3 c4 c5 c6 m q H a8;obtain⟨⟨⟨l1,d0,d1⟩,l2,E,c1,c2,c3,c4,c5,c6⟩,l,d,m,q⟩:=HC.out w2 F;obtain⟨bz,oz,bj,az,y0⟩:=l.sizes g G;have aa:=qa3 bj l d;rw[bj] at d1;have ba:Hid (z5 p s b=gj p s b/\s9 p s b=0):=by
  have hu:ui p s.on b=0:=by unfold ui;rw[x.out.sh0];simp only[beq_self_eq_true,if_true];rw[bq (by have:=x.out.sh.n;omega)];rfl
  have e:s9 p s b=0:=by unfold s9;rw[if_pos H0.out,hu]
  exact⟨by unfold z5;rw[e,if_pos rfl];rfl,e⟩
 rw[ba.out.1,ba.out.2];have ds:Hid (gj p s b<n*p.zs g->gw p s b g n=5):=λh=>Md H0.out hb G K3.out h;have b5:Hid (¬gj p s b<n*p.zs g->(200<dx s b g+n\/1048576<s.si.z g+n)->gw p s b g n=2):=λh h2=>Lv H0.out hb G K3.out h h2;have cb:Hid (¬gj p s b<n*p.zs g->¬(200<dx s b g+n\/1048576<s.si.z g+n)->gw p s b g n=0):=λh h2=>Q1 H0.out hb G K3.out h h2;clear ba k1 k2 bj l d
 generalize gj p s b=FR at *
 generalize p.zs g=PZ at *
 by_cases h5:FR<n*PZ
 .have A:Hid (gw p s b g n=5):=ds.out h5;clear E c1 c2 c3 c4 c5 c6;obtain⟨zl,Q,S,T,zc1,U,zc2,K,zc3,V,zc4,L,zc5,W,P⟩:=z7 q;go_wp2_with fail;exact g9 results17 q m (by omega) A.out (by decide) rfl rfl rfl
 have d5:decide (FR<n*PZ)=false:=by simp;omega
 have bs:=q.lt;clear q;go_wp2_with fail;refine(It p s b g w2 aa.out.2.2 x.out hb G).mono ?_;rintro e w3 ⟨rfl,H⟩;have F:=F.trans (H.mono F.size);clear l1 d0 d1 l2 E c1 c2 c3 c4 c5 c6 m H aa y0 bs az d5;obtain⟨⟨⟨l1,d0,d1⟩,l2,E,c1,c2,c3,c4,c5,c6⟩,l,d,m,q⟩:=HC.out w3 F;obtain⟨bi,oi,B,cz,y2⟩:=d.si.ints g (by rw[x.out.sin];exact G);have v5:=d.si.le;have v6:=d.si.cap;unfold maxLen at v6;have u3:=x.out.sib g G;have el:g<s.si.n:=by rw[x.out.sin];exact G
 have ly:0<=dx s b g/\dx s b g<=1800:=by
  have bl:b<s.on.n:=by rw[x.out.sh.n];exact hb
  have u1:=x.out.sh.num b bl g G;have u2:=lj (s:=s) (b:=b) (g:=g) x.out.moveN;have ms8:=x.out.ms8;unfold dx;omega
 have aa:=qa3 l d B;have M:=b5.out h5;have af:=cb.out h5;have d2:Hid (li s b g n=setIn (setOn s b g ((s.on.r b).z g+n)) g (s.si.z g+n)):=rfl;clear b5 cb;have dq:Hid (dx s b g=(s.on.r b).z g+bp s b g s.ms.n):=rfl;clear l d
 generalize dx s b g=LY at *
 generalize hSI:s.si.z g=D at *
 have dd:=hid hSI;clear hSI;rw[B] at c4;clear B;cases d6:decide (200-LY<n);rotate_left
 .have A:Hid (gw p s b g n=2):=M (Or.inl (by simp at d6;omega));clear M af;obtain⟨zl,Q,S,T,zc1,U,zc2,K,zc3,V,zc4,L,zc5,W,P⟩:=z7 q;go_wp2_with fail;exact g9 results17 q m (by omega) A.out (by decide) rfl rfl rfl
 cases d7:decide (1048576-D<n);rotate_left
 .have A:Hid (gw p s b g n=2):=M (Or.inr (by simp at d7;omega));clear M af;obtain⟨zl,Q,S,T,zc1,U,zc2,K,zc3,V,zc4,L,zc5,W,P⟩:=z7 q;go_wp2_with fail;exact g9 results17 q m (by omega) A.out (by decide) rfl rfl rfl
 have A:Hid (gw p s b g n=0):=af (by simp at d6 d7;omega);have bn:Eg p s.on b g n=0:=by
  have bl:b<s.on.n:=by rw[x.out.sh.n];exact hb
  have hu:t9 p s.on b g=0:=by rw[Ej x.out.sh0,bq (by omega),bq (by omega)];rfl
  have u1:=x.out.sh.num b bl g G;have u2:=(lj (s:=s) (b:=b) (g:=g) x.out.moveN).1;have ee:=dq.out;have hi:inB n (-((s.on.r b).z g)) (200-(s.on.r b).z g)=true:=bq (by simp at d6;omega);simp[Eg,hu,hi]
 have ci:=hid bn;have bs:=q.lt;have be:=nf p s w3 aa.out.2.1 x.out;rw[St.val,aa.out.2.2] at be;have b7:Hid _:=be;clear M af bn be q;go_wp2_with fail;refine Calls.mono b7.out ?_;rintro e u ⟨o,rfl,f,bo,H⟩;clear b7;have cd:=F.trans (H.mono F.size);have q3:=F.size;have ck:Hid (w.heap.size<=w3.heap.size):=Qzx (HC.out _ brf).2.2.2.1.size F.size;have q4:=H.size;have ay:Hid (o.si.n=p.ns):=f.si.1.trans x.out.sin;have dt:Hid (o.si.z g=D):=(f.si.2 g (by rw[ay.out];exact G)).trans dd.out;obtain⟨W5,b4,ac,K5⟩:=ab7 u o;have bb:=hid b4;have a0:=cd.trans (ac.mono cd.size);have a1:=ai.below bo ac;clear l1 d0 d1 l2 E c1 c2 c3 c4 c5 c6 m aa bs cz y2;obtain⟨⟨⟨l1,d0,d1⟩,l2,E,-⟩,l,d,m,-⟩:=HC.out W5 a0;have b0:=qa2 l d;have cx:=qa3 a1 K5 f;have b6:=l1;have bv:=l2;have ca:=d0;have bw:=d1;have bx:=E;rw[<-bb.out] at b6 bv ca bw bx;clear bo a1 K5 f l d m l1 l2 d0 d1 E b4;simp only[St.val];go_wp2_with fail;rw[bb.out];clear b6 bv ca bw bx bb;refine(La p s.on b g n W5 b0.out.1 b0.out.2.on ci.out).mono ?_;rintro e w6 ⟨r,rfl,hR,bd,b9,al⟩;obtain⟨b3,K5,f⟩:=cx.out;have q5:=ac.size;have q6:=al.size;have br:=a0.trans (al.mono a0.size);have bg:=ai.swap b3 al hR nlr (by omega);have K6:=K5.below al;obtain⟨J,B,iA,i1,i2,ik⟩:=bg.si;have bc:=bg.box K6 0 (.slice r.a r.n r.c);have K7:=K6.set 0 (.slice r.a r.n r.c);have b8:=br.setCell (p:=⟨u.heap.size,0,none⟩) (by show W0.heap.size<=u.heap.size;omega) (.slice r.a r.n r.c);obtain⟨eo,ad,-,-,-,jk⟩:=bc.si;rw[show(⟨r,o.os,o.hs,o.ms,o.si,o.so,o.sf⟩:St).si=o.si from rfl] at B ad jk i1 i2;rw[B] at ad;simp only[Qkx,Qkz,and_true] at ad;subst ad;have b1:=bc.setIn (show(⟨r,o.os,o.hs,o.ms,o.si,o.so,o.sf⟩:St).si.a=some ⟨J,0,none⟩ from B) g (D+n);have Y:=K7.other (a:=⟨J,g,none⟩) (Blk.ne2 K7 jk (by decide)) (.int .i64 (D+n));have bk:=b8.setCell (p:=⟨J,g,none⟩) (by show W0.heap.size<=J;omega) (.int .i64 (D+n));have cg:=qa3 bk b1 Y;have dw:Hid (ae (setIn ⟨r,o.os,o.hs,o.ms,o.si,o.so,o.sf⟩ g (D+n)) (li s b g n)):=by
  show ae _ (li s b g n);rw[d2.out];refine Fc (s:=⟨r,o.os,o.hs,o.ms,o.si,o.so,o.sf⟩) (t:=setOn s b g ((s.on.r b).z g+n)) ⟨⟨bd,λi hi => ?_⟩,f.os,f.hs,f.ms,f.si,f.so,f.sf⟩ _ _;have cy:i<s.on.n:=by rw[<-bd];exact hi
  have y:=b9 i cy;show(r.r i).n=(if i=b then ku (s.on.r i) g ((s.on.r b).z g+n) else s.on.r i).n/\∀j,j<(r.r i).n->(r.r i).z j=(if i=b then ku (s.on.r i) g ((s.on.r b).z g+n) else s.on.r i).z j;by_cases bf:i=b
  .subst bf;rw[if_pos rfl];refine⟨y.1,λj hj => ?_⟩;rw[y.2 j (by rw[<-y.1];exact hj)];show El s.on i g n i j=if j=g then(s.on.r i).z g+n else(s.on.r i).z j;unfold El;by_cases cc:j=g
   .subst cc;simp
   simp[cc]
  rw[if_neg bf];refine⟨y.1,λj hj => ?_⟩;rw[y.2 j (by rw[<-y.1];exact hj)];unfold El;simp[bf]
 have z1:=K6.lt;have z2:=K6.frozen 0;have z3:=K6.k 0;have y4:(w6.setCell ⟨u.heap.size,0,none⟩ (.slice r.a r.n r.c)).cell? ⟨u.heap.size,4,none⟩=some (.slice o.si.a o.si.n o.si.c):=K7.k 4;rw[B,ay.out] at y4;have y5:(w6.setCell ⟨u.heap.size,0,none⟩ (.slice r.a r.n r.c)).cell? ⟨J,g,none⟩=some (.int .i64 (o.si.z g)):=jk.cell (j:=g) (by rw[ay.out];exact G);rw[dt.out] at y5;have y6:=jk.lt;have y7:=jk.frozen g;have y8:=K7.lt;have em:=hid B;rw[ay.out] at i1;unfold maxLen at i2;obtain⟨-,-,-,ct,b2⟩:=HC.out _ bk;have m8:=Y.lt;have e0:((w6.setCell ⟨u.heap.size,0,none⟩ (.slice r.a r.n r.c)).setCell ⟨J,g,none⟩ (.int .i64 (D+n))).cell? ⟨u.heap.size,0,none⟩=some (.slice r.a r.n r.c):=Y.k 0;have e1:((w6.setCell ⟨u.heap.size,0,none⟩ (.slice r.a r.n r.c)).setCell ⟨J,g,none⟩ (.int .i64 (D+n))).cell? ⟨u.heap.size,1,none⟩=some (.slice o.os.a o.os.n o.os.c):=Y.k 1;have e2:((w6.setCell ⟨u.heap.size,0,none⟩ (.slice r.a r.n r.c)).setCell ⟨J,g,none⟩ (.int .i64 (D+n))).cell? ⟨u.heap.size,2,none⟩=some (.slice o.hs.a o.hs.n o.hs.c):=Y.k 2;have e3:((w6.setCell ⟨u.heap.size,0,none⟩ (.slice r.a r.n r.c)).setCell ⟨J,g,none⟩ (.int .i64 (D+n))).cell? ⟨u.heap.size,3,none⟩=some (.slice o.ms.a o.ms.n o.ms.c):=Y.k 3;have e4:((w6.setCell ⟨u.heap.size,0,none⟩ (.slice r.a r.n r.c)).setCell ⟨J,g,none⟩ (.int .i64 (D+n))).cell? ⟨u.heap.size,4,none⟩=some (.slice o.si.a o.si.n o.si.c):=Y.k 4;have e5:((w6.setCell ⟨u.heap.size,0,none⟩ (.slice r.a r.n r.c)).setCell ⟨J,g,none⟩ (.int .i64 (D+n))).cell? ⟨u.heap.size,5,none⟩=some (.slice o.so.a o.so.n o.so.c):=Y.k 5;have e6:((w6.setCell ⟨u.heap.size,0,none⟩ (.slice r.a r.n r.c)).setCell ⟨J,g,none⟩ (.int .i64 (D+n))).cell? ⟨u.heap.size,6,none⟩=some (.slice o.sf.a o.sf.n o.sf.c):=Y.k 6;obtain⟨zl,Q,S,T,zc1,U,zc2,K,zc3,V,zc4,L,zc5,W,P⟩:=z7 b2;clear hR bd b9 b3 K5 K6 K7 Y bg bc b1 b8 bk al br ik jk f B a0 ac ct b2;simp only[Sh.val];go_wp2_with fail;obtain⟨dn,db,en⟩:=cg.out;obtain⟨_,_,_,m,q⟩:=HC.out _ dn;have KZ:=rp q (.slice r.a r.n r.c) (.slice o.os.a o.os.n o.os.c) (.slice o.hs.a o.hs.n o.hs.c) (.slice o.ms.a o.ms.n o.ms.c) (.slice o.si.a o.si.n o.si.c) (.slice o.so.a o.so.n o.so.c) (.slice o.sf.a o.sf.n o.sf.c);have az:=na (b:=w.heap.size+2) m (by omega) (.slice r.a r.n r.c) (.slice o.os.a o.os.n o.os.c) (.slice o.hs.a o.hs.n o.hs.c) (.slice o.ms.a o.ms.n o.ms.c) (.slice o.si.a o.si.n o.si.c) (.slice o.so.a o.so.n o.so.c) (.slice o.sf.a o.sf.n o.sf.c);have bm:=ai.set7 db q (.slice r.a r.n r.c) (.slice o.os.a o.os.n o.os.c) (.slice o.hs.a o.hs.n o.hs.c) (.slice o.ms.a o.ms.n o.ms.c) (.slice o.si.a o.si.n o.si.c) (.slice o.so.a o.so.n o.so.c) (.slice o.sf.a o.sf.n o.sf.c);unfold set7 at KZ az bm;obtain⟨c9,dy,du,d3,dr,dz,dh⟩:=co KZ;refine Xzq (v := .tuple #[(setIn ⟨r,o.os,o.hs,o.ms,o.si,o.so,o.sf⟩ g (D+n)).val,.int .i64 0]) (by simp[results,results17,go_sem,setIn,ku,St.val,c9,dy,du,d3,dr,dz,dh]) rfl ?_;exact⟨setIn ⟨r,o.os,o.hs,o.ms,o.si,o.so,o.sf⟩ g (D+n),by rw[A.out];rfl,bm.at,⟨λ_=>dw.out,λh=>absurd A.out h⟩,λ_=>bm.mono ck.out,az⟩
def tg(p:Pl)(x:Hd):Bool := !(inB x.o 0 ((p.ns:Int)-1)) || !(inB x.l 1 200)
def o6(x:Hd):Bool:=x.b !=0||x.n !=0
def gp(p:Pl)(s:St)(l:Hs):Int :=
 if ah p s=0 then(if s.os.n=4\/¬(1<=l.n/\l.n<=3) then 2 else if aw l.n (λj=>tg p (l.z j)) then 3 else if aw l.n (λj=>o6 (l.z j)) then 1 else 0) else ah p s
def kj(s:St)(l:Hs):St:=⟨s.on,⟨s.os.a,s.os.n+1,s.os.c,λi=>if i=s.os.n then ⟨0,l⟩ else s.os.z i⟩,s.hs,s.ms,s.si,s.so,s.sf⟩
theorem De{l:Hs}(h:¬ah p s=0):gp p s l=ah p s:=by unfold gp;rw[if_neg h]
theorem x9{l:Hs}(h:ah p s=0)(a:s.os.n=4\/¬(1<=l.n/\l.n<=3)):gp p s l=2:=by unfold gp;rw[if_pos h,if_pos a]
theorem Da{l:Hs}(h:ah p s=0)(b:¬(s.os.n=4\/¬(1<=l.n/\l.n<=3)))(a:aw l.n (λj=>tg p (l.z j))=true):gp p s l=3:=by unfold gp;rw[if_pos h,if_neg b,if_pos a]
theorem D9{l:Hs}(h:ah p s=0)(c:¬(s.os.n=4\/¬(1<=l.n/\l.n<=3)))(b:¬aw l.n (λj=>tg p (l.z j))=true)(a:aw l.n (λj=>o6 (l.z j))=true):gp p s l=1:=by unfold gp;rw[if_pos h,if_neg c,if_neg b,if_pos a]
theorem Ok{l:Hs}(h:ah p s=0)(c:¬(s.os.n=4\/¬(1<=l.n/\l.n<=3)))(b:¬aw l.n (λj=>tg p (l.z j))=true)(a:¬aw l.n (λj=>o6 (l.z j))=true):gp p s l=0:=by unfold gp;rw[if_pos h,if_neg c,if_neg b,if_neg a]
theorem U9(B:Nat)(p:Pl)(x:Hd)(w:World)(les:p.ns<=p.cs)(caps:p.cs<=maxLen)(f:B<w.heap.size)(c1:w.cell? ⟨B,1,none⟩=some (.slice p.sa p.ns p.cs)):
  Calls prog 53 #[x.val,.pointer (some ⟨B,0,none⟩)] w λe d=>e = .returned (.bool (tg p x))/\Below w.heap.size w d:=by
 have c:p.ns<=maxLen:=Qzx les caps;have a:Below w.heap.size w (w.alloc (.cells #[.int .i64 x.o,.int .i64 x.l,.int .i64 x.b,.int .i64 x.n] 68)):=(Below.refl w.heap.size w).alloc nlr _;have g:=(a.cell (p:=⟨B,1,none⟩) f).trans c1;have h:B<(w.alloc (.cells #[.int .i64 x.o,.int .i64 x.l,.int .i64 x.b,.int .i64 x.n] 68)).heap.size:=by have:=a.size;omega
 unfold tg Hd.val;clear c1;unfold maxLen at caps;cases i:inB x.o 0 ((p.ns:Int)-1)
 all_goals
  go_enter func53,ntmps53;go_wp2_with(first|(go_at_call 47;refine ag (dm _ _ _ c) ?_)|(go_at_call 48;refine ag (cn _ _ _ _) ?_));go_ret;exact⟨by simp,a⟩
theorem Vl(x:Hd)(w:World):
  Calls prog 54 #[x.val] w λe c=>e = .returned (.bool (o6 x))/\Below w.heap.size w c:=by
 have a:Below w.heap.size w (w.alloc (.cells #[.int .i64 x.o,.int .i64 x.l,.int .i64 x.b,.int .i64 x.n] 68)):=(Below.refl w.heap.size w).alloc nlr _;unfold o6 Hd.val;cases d:(x.b !=0)
 all_goals
  go_enter func54,ntmps54;go_wp2_with fail;go_ret;exact⟨by simp,a⟩
theorem ai.orders{B:Nat}{j:World}{os:Os}(h:ai A w s)(f:pu B 66 w j)(k:j7 A j os):ai A j ⟨s.on,os,s.hs,s.ms,s.si,s.so,s.sf⟩:=by
 refine⟨?_,λi hi=>(h.rows i hi).grew f (by decide),h.rapart,k,h.hs.grew f (by decide),h.ms.grew f (by decide),h.msr.grew f (by decide),h.si.grew f (by decide),h.so.grew f (by decide),h.sf.grew f (by decide),h.aio,h.aif,h.aof,h.ari⟩;obtain⟨g,a,b,c,d,e⟩:=h.on;exact⟨g,a,b,c,d,f.blk e (by decide)⟩
theorem Kz{o:St}{l b:Hs}{a:Option Addr}{c:Nat}(h:ae o s)(e:b.n=l.n)(g:∀j,j<l.n->b.z j=l.z j):ae ⟨o.on,⟨a,o.os.n+1,c,l8 o.os ⟨0,b⟩⟩,o.hs,o.ms,o.si,o.so,o.sf⟩ (kj s l):=by
 have m:o.os.n=s.os.n:=h.os.1;refine⟨h.on,⟨by show o.os.n+1=s.os.n+1;omega,λi hi => ?_⟩,h.hs,h.ms,h.si,h.so,h.sf⟩;have p:i<o.os.n+1:=hi;show(l8 o.os ⟨0,b⟩ i).k=(if i=s.os.n then(⟨0,l⟩:Od) else s.os.z i).k/\(l8 o.os ⟨0,b⟩ i).ls.n=(if i=s.os.n then(⟨0,l⟩:Od) else s.os.z i).ls.n/\∀j,j<(l8 o.os ⟨0,b⟩ i).ls.n->(l8 o.os ⟨0,b⟩ i).ls.z j=(if i=s.os.n then(⟨0,l⟩:Od) else s.os.z i).ls.z j;unfold l8;by_cases d:i=s.os.n
 .rw[if_pos (by omega),if_pos d];exact⟨rfl,e,λj f=>g j (by rw[<-e];exact f)⟩
 rw[if_neg (by omega),if_neg d];exact h.os.2 i (by omega)
theorem P4(p:Pl)(s:St)(l:Hs)(w:World)(hp:p.At w)(hs:s.At w)(hl:l.At w):
  Calls prog 18 #[p.val,s.val,l.val] w λe w'=>∃r:St,e = .returned (.tuple #[r.val,.int .i64 (gp p s l)])/\r.At w'/\dv (gp p s l) (kj s l) r/\(gp p s l=0->ai w.heap.size w' r)/\Below w.heap.size w w':=by
 obtain⟨W0,hW,ao,X0,Z0⟩:=zd w p s;have HC:Hid (∀f,Below W0.heap.size W0 f->mf f w.heap.size (w.heap.size+1) p s/\p.At f/\s.At f/\Below w.heap.size w f/\Blk f (w.heap.size+2) 31 7 (λ_ => .slice .none 0 0)/\l.At f):=λf h=>⟨X0.below h,(hp.below ao).below h,(hs.below ao).below h,ao.trans (h.mono ao.size),Z0.below h,(hl.below ao).below h⟩;have HW:=hid hW;have leb:=hp.leb;have b7:=hp.capb;have les:=hp.les;have a6:=hp.caps;have capb:=b7;have caps:=a6;have ee:=Z0.lt;unfold maxLen at capb caps;have cl:=hl.le;have ad:=hl.cap;have cv:=ad;unfold maxLen at cv;clear hW X0 Z0 hp hs hl;unfold Pl.val St.val Hs.val;go_enter func18,ntmps18;go_wp2_with fail;rw[HW.out];obtain⟨X,E,A,y,D,t⟩:=HC.out W0 brf;refine(lm p s W0 E A).mono ?_;rintro e w1 ⟨rfl,H⟩;clear X E A y D t HW;obtain⟨⟨⟨l1,d0,d1⟩,l2,c0,c1,c2,c3,c4,c5,c6⟩,E,A,y,D,t⟩:=HC.out w1 H;by_cases h0:ah p s=0;rotate_left
 .have W:Hid (gp p s l=ah p s):=De h0;clear E A t c0 c1 c2 c3 c4 c5 c6;obtain⟨zl,am,an,ar,zc1,ax,zc2,aj,zc3,az,zc4,ak,zc5,a1,al⟩:=z7 D;go_wp2_with fail;exact g9 results18 D y (by omega) W.out h0 rfl rfl rfl
 have H0:=hid h0;have HF:Hid (cw p s):=(ew h0).fm;rw[h0];clear h0;by_cases k1:s.os.n=4
 .have W:Hid (gp p s l=2):=x9 H0.out (Or.inl k1);have q1:((s.os.n:Int)==4)=true:=by rw[k1];rfl
  clear k1;clear E A t;obtain⟨zl,am,an,ar,zc1,ax,zc2,aj,zc3,az,zc4,ak,zc5,a1,al⟩:=z7 D;go_wp2_with(go_at_call 48;refine ag (cn _ _ _ _) ?_);exact g9 results18 D y (by omega) W.out (by decide) rfl rfl rfl
 have q1:((s.os.n:Int)==4)=false:=by simp;omega
 cases k2:inB l.n 1 3
 .have W:Hid (gp p s l=2):=x9 H0.out (Or.inr (by have:=N0 k2;omega));clear k1;clear E A t;obtain⟨zl,am,an,ar,zc1,ax,zc2,aj,zc3,az,zc4,ak,zc5,a1,al⟩:=z7 D;go_wp2_with(go_at_call 48;refine ag (cn _ _ _ _) ?_);exact g9 results18 D y (by omega) W.out (by decide) rfl rfl rfl
 have eo:=aq k2;have HM:Hid (¬(s.os.n=4\/¬(1<=l.n/\l.n<=3))):=by show ¬_;omega
 clear k1;have U:=hid t;clear D E A t;go_wp2_with(go_at_call 48;refine ag (cn _ _ _ _) ?_);refine(Mc 53 #[.pointer (some ⟨w.heap.size,0,none⟩)] (λj=>tg p (l.z j)) _ _ _ _ cl ad l.z U.out.hds (enters_of func53 (by kernel_rfl) rfl) (λi Q _ h=>U9 w.heap.size p _ Q les a6 (Xzx l1 h.size) ((h.cell (p:=⟨w.heap.size,1,none⟩) l1).trans d1))).mono ?_;rintro e Q ⟨rfl,F⟩;have H:=H.trans (F.mono H.size);clear l1 d0 d1 l2 c0 c1 c2 c3 c4 c5 c6 y F U q1 k2;obtain⟨⟨⟨l1,d0,d1⟩,l2,c0,c1,c2,c3,c4,c5,c6⟩,E,A,y,D,t⟩:=HC.out Q H;cases k3:aw l.n (λj=>tg p (l.z j));rotate_left
 .have W:Hid (gp p s l=3):=Da H0.out HM.out k3;clear k3;clear E A t;obtain⟨zl,am,an,ar,zc1,ax,zc2,aj,zc3,az,zc4,ak,zc5,a1,al⟩:=z7 D;go_wp2_with fail;exact g9 results18 D y (by omega) W.out (by decide) rfl rfl rfl
 have K3:Hid (¬aw l.n (λj=>tg p (l.z j))=true):=by show ¬_;rw[k3];decide
 clear k3;have U:=hid t;clear D E A t;go_wp2_with fail;refine(Mc 54 #[] (λj=>o6 (l.z j)) _ _ _ _ cl ad l.z U.out.hds (enters_of func54 (by kernel_rfl) rfl) (λi Q _ h=>by rw[Array.append_empty];exact Vl _ _)).mono ?_;rintro e w3 ⟨rfl,F⟩;have H:=H.trans (F.mono H.size);clear l1 d0 d1 l2 c0 c1 c2 c3 c4 c5 c6 y F U;obtain⟨⟨⟨l1,d0,d1⟩,l2,c0,c1,c2,c3,c4,c5,c6⟩,E,A,y,D,t⟩:=HC.out w3 H;cases k4:aw l.n (λj=>o6 (l.z j));rotate_left
 .have W:Hid (gp p s l=1):=D9 H0.out HM.out K3.out k4;clear k4;clear E A t;obtain⟨zl,am,an,ar,zc1,ax,zc2,aj,zc3,az,zc4,ak,zc5,a1,al⟩:=z7 D;go_wp2_with fail;exact g9 results18 D y (by omega) W.out (by decide) rfl rfl rfl
 have W:Hid (gp p s l=0):=Ok H0.out HM.out K3.out (by rw[k4];decide);clear k4 K3 HM;have d4:=D.lt;have ck:=nf p s w3 A HF.out;have ch:Hid _:=ck;have U:=hid t;clear ck D t E A;go_wp2_with fail;refine Calls.mono ch.out ?_;rintro e J ⟨o,rfl,m,bz,F⟩;clear ch;have cr:=H.trans (F.mono H.size);have q3:=H.size;have cu:Hid (w.heap.size<=w3.heap.size):=Qzx (HC.out _ brf).2.2.2.1.size H.size;have q4:=F.size;obtain⟨W5,cg,Y,a5⟩:=ab7 J o;have cf:=hid cg;have b0:=cr.trans (Y.mono cr.size);have a8:=ai.below bz Y;have bj:=(U.out.below F).below Y;have q5:=Y.size;have et:o.os.n<=4:=by have:=HF.out.os4;have:o.os.n=s.os.n:=m.os.1;omega
 clear l1 d0 d1 l2 c0 c1 c2 c3 c4 c5 c6 y d4 cg;simp only[St.val];go_wp2_with fail;rw[cf.out];have c8:=qa3 a8 a5 m;have dy:=hid bj;have r0:=Qqq (a5.k 1);have eu:J.heap.size<W5.heap.size:=a5.lt;clear bz a8 a5 m bj U cf Y F;obtain⟨iO,hO,de,dj,dm⟩:=info_parts Ca;refine td (λw'=>∃p:Regrown,w'=grow (redrawn W5 p.d) p.os) [0,1,2] [3,4,5] [(true,6),(true,7),(true,8)] (Qqx (brf.drew)) ?_;simp only[dw,Qyq,Xqq,Qyx,Qyz,Xqz,Xqx]
 repeat(go_big_quiet_step(fail))
 refine Qqz ?_;clear r0;refine⟨λj v g f=>match j with|3=>DHs W5.heap.size 68 l v g f|4=>D16 W5.heap.size ⟨0,l⟩ v g f|5=>D17 W5.heap.size ⟨0,l⟩ v g f|_=>True,
  Qjx ⟨λv g w w' H h=>DHs.below h H,Qjx ⟨λv g w w' H h=>D16.below h H,Qjx ⟨λv g w w' H h=>D17.below h H,Qjq _⟩⟩⟩,
  Qjx ⟨λv g w h=>by obtain⟨_,h1,_⟩:=h;rw[h1];intro x hx;simp at hx,Qjx ⟨λv g w h=>by obtain⟨_,h1,_⟩:=h;rw[h1];intro x hx;simp at hx,Qjx ⟨λv g w h=>by obtain⟨_,_,h1,_⟩:=h;rw[h1];intro x hx;simp at hx,Qjq _⟩⟩⟩,
  Qjx ⟨?zt3,Qjx ⟨?zt4,Qjx ⟨?zt5,Qjq _⟩⟩⟩,?ztdone⟩
 case zt3 =>
  intro V G f K hS hd hA hK;have S:=af hS;have q:=S.size;refine ay 3 rfl ?_;simp only[ap,bu,Qvz,Qwq,Qvx,Act.put,Qvq,Qwx,Qwz] at hK ⊢;go_wp2_with fail;refine(Gy l f (dy.out.below S) (by omega)).mono ?_;rintro e Q ⟨r,rfl,hc,F⟩;have HR:Hid (pi W5.heap.size 68 l Q r):=⟨hc.1,hc.2.1,hc.2.2.1.mono (by omega),hc.2.2.2.mono (by omega)⟩;clear hc;simp only[Hs.val];go_wp2_with fail;exact hK _ [] _ (Qqx (S.trans (F.mono S.size))) F (λx hx=>by simp at hx) ⟨r,rfl,rfl,HR.out⟩
 case zt4 =>
  intro V G f K hS hd hA hK;obtain⟨r,-,dh,hc⟩:DHs W5.heap.size 68 l (V 3) (G 3) f:=hd 3 (Qjz (by kernel_rfl)) (by simp);have ab:Hid (pi W5.heap.size 68 l f r):=hc;clear hc;refine ay 4 rfl ?_;simp only[ap,bu,Qvz,Qwq,Qvx,Act.put,Qvq,Qwx,Qwz,dh] at hK ⊢;go_wp2_with fail;exact hK _ [] _ hS brf (λx hx=>by simp at hx) ⟨r,rfl,rfl,ab.out⟩
 case zt5 =>
  intro V G f K hS hd hA hK;have S:=af hS;obtain⟨r,-,di,hc⟩:D16 W5.heap.size ⟨0,l⟩ (V 4) (G 4) f:=hd 4 (Qjz (by kernel_rfl)) (by simp);have ab:Hid (pi W5.heap.size 68 l f r):=hc;clear hc;refine ay 5 rfl ?_;simp only[ap,bu,Qvz,Qwq,Qvx,Act.put,Qvq,Qwx,Qwz,di] at hK ⊢;go_wp2_with fail;have cj:=(Below.refl f.heap.size f).alloc nlr (.cells #[.int .i64 0,.slice r.a r.n r.c] 66);exact hK _ [] _ (Qqx (S.alloc S.size _)) (brf.alloc nlr _) (λx hx=>by simp at hx) ⟨f.heap.size,r,rfl,rfl,S.size,Blk.mk' rfl rfl,ab.out.1,ab.out.2.1,ab.out.2.2.1.below cj,ab.out.2.2.2.below cj⟩
 case ztdone =>
  intro V G' f hS hD hA;obtain⟨BO,r,-,db,em,cb,e1,e2,⟨o1,o2,o3,o4⟩,-⟩:D17 W5.heap.size ⟨0,l⟩ (V 5) (G' 5) f:=hD 5 (by simp);have S:=af hS;have q1:=S.size;obtain⟨gB,ea,br,kB⟩:=o4 (by rw[e1];show 0<l.n;omega);obtain⟨bn,K5,m⟩:=c8.out;have cc:=ai.below bn S;have K6:=K5.below S;have ce:=b0.trans (S.mono b0.size);have HE:=qa8 e1 e2 ea o1 o2 kB m br;have T:=qa2 cc bn;have cd:=hid K6;have bw:=hid ce;have a2:=hid cb;clear hS hD hA e1 e2 ea o1 o2 o3 o4 kB bn K5 m cc K6 ce cb b0;simp only[ap,bu,Qvz,Qwq,Qvx,Act.put,Qvq,Qwx,Qwz,db];refine dk 6 rfl ?_;go_wp2_with(at_builtin;refine tc f rfl (.tmp 45) (.tmp 49) 27 rfl w3.heap.size 66 iO (.agg #[.int .i64 0,.slice none 0 0]) 2 32 underlying27 hO de dj dm rfl (by decide) o.os.a o.os.n o.os.c (jn o.os.n o.os.z) rfl T.out.1.os.room T.out.1.os.le T.out.1.os.cap (sw _ _) T.out.1.os.list ⟨BO,0,none⟩ 1 1 [.int .i64 0,.slice r.a r.n r.c] rfl rfl ?zc1 ?zc2 (by decide) ?zc3 ?zc4 ?zc5 ?_)
  case zc1 =>
   intro j u hj
   match j,hj with
   | 0,hj=>simp at hj;subst hj;exact a2.out.k 0
   | 1,hj=>simp at hj;subst hj;exact a2.out.k 1
  case zc2=>exact⟨rfl,rfl⟩
  case zc3=>unfold maxLen;omega
  case zc4=>omega
  case zc5=>omega
  intro v2 Q a7 M;obtain⟨e1,e2,ea,o1,o2,kB,m,br⟩:=HE.out;obtain⟨L,P,rfl,cq⟩:=j7.more (x:=⟨0,r⟩) T.out.1.os a7 M ea (by omega) o1 o2 kB (λi hi e=>by
   obtain⟨B,x1,x2,x3,x4,x5⟩:=T.out.2.os.lines i hi;rw[x1] at e;have e':=e.trans ea;simp only[Qkx,Qkz,and_true] at e';have:=x5.lt;omega)
  have bi:=T.out.1.orders M cq;have ci:=M.below bw.out (by omega) (by have:=bw.out.size;omega);have K7:=M.blk cd.out (by decide);have xl:=K7.lt;have ek:=K7.frozen 1;have eq:=K7.k 1;have K8:=K7.set 1 (.slice L (o.os.n+1) P);have ca:=bi.box K7 1 (.slice L (o.os.n+1) P);have cp:=ci.setCell (p:=⟨J.heap.size,1,none⟩) (by show W0.heap.size<=J.heap.size;omega) (.slice L (o.os.n+1) P);have dz:Hid (ae ⟨o.on,⟨L,o.os.n+1,P,l8 o.os ⟨0,r⟩⟩,o.hs,o.ms,o.si,o.so,o.sf⟩ (kj s l)):=Kz m e1 e2;obtain⟨-,-,-,b2,bl,-⟩:=HC.out _ cp;have ct:=qa3 ca b2 bl;have m8:=K8.lt;have ev:(Q.setCell ⟨J.heap.size,1,none⟩ (.slice L (o.os.n+1) P)).cell? ⟨J.heap.size,0,none⟩=some (.slice o.on.a o.on.n o.on.c):=K8.k 0;have er:(Q.setCell ⟨J.heap.size,1,none⟩ (.slice L (o.os.n+1) P)).cell? ⟨J.heap.size,1,none⟩=some (.slice L (o.os.n+1) P):=K8.k 1;have es:(Q.setCell ⟨J.heap.size,1,none⟩ (.slice L (o.os.n+1) P)).cell? ⟨J.heap.size,2,none⟩=some (.slice o.hs.a o.hs.n o.hs.c):=K8.k 2;have ep:(Q.setCell ⟨J.heap.size,1,none⟩ (.slice L (o.os.n+1) P)).cell? ⟨J.heap.size,3,none⟩=some (.slice o.ms.a o.ms.n o.ms.c):=K8.k 3;have el:(Q.setCell ⟨J.heap.size,1,none⟩ (.slice L (o.os.n+1) P)).cell? ⟨J.heap.size,4,none⟩=some (.slice o.si.a o.si.n o.si.c):=K8.k 4;have en:(Q.setCell ⟨J.heap.size,1,none⟩ (.slice L (o.os.n+1) P)).cell? ⟨J.heap.size,5,none⟩=some (.slice o.so.a o.so.n o.so.c):=K8.k 5;have ej:(Q.setCell ⟨J.heap.size,1,none⟩ (.slice L (o.os.n+1) P)).cell? ⟨J.heap.size,6,none⟩=some (.slice o.sf.a o.sf.n o.sf.c):=K8.k 6;obtain⟨zl,am,an,ar,zc1,ax,zc2,aj,zc3,az,zc4,ak,zc5,a1,al⟩:=z7 bl;clear a7 M cq bi ci K7 K8 ca cp b2 bl HE T cd bw a2 kB m e1 e2 ea o1 o2 br S;refine mg ⟨jq.yes,?_⟩;refine dk 7 rfl ?_;go_wp2_with fail;refine⟨jq.yes,?_⟩;refine dk 8 rfl ?_;go_wp2_with fail;refine⟨jq.yes,?_⟩;refine NoPanic.normal ?_;go_wp2_with fail;obtain⟨dg,y,D⟩:=ct.out;have KZ:=rp D (.slice o.on.a o.on.n o.on.c) (.slice L (o.os.n+1) P) (.slice o.hs.a o.hs.n o.hs.c) (.slice o.ms.a o.ms.n o.ms.c) (.slice o.si.a o.si.n o.si.c) (.slice o.so.a o.so.n o.so.c) (.slice o.sf.a o.sf.n o.sf.c);have cm:=na (b:=w.heap.size+2) y (by omega) (.slice o.on.a o.on.n o.on.c) (.slice L (o.os.n+1) P) (.slice o.hs.a o.hs.n o.hs.c) (.slice o.ms.a o.ms.n o.ms.c) (.slice o.si.a o.si.n o.si.c) (.slice o.so.a o.so.n o.so.c) (.slice o.sf.a o.sf.n o.sf.c);have bx:=ai.set7 dg D (.slice o.on.a o.on.n o.on.c) (.slice L (o.os.n+1) P) (.slice o.hs.a o.hs.n o.hs.c) (.slice o.ms.a o.ms.n o.ms.c) (.slice o.si.a o.si.n o.si.c) (.slice o.so.a o.so.n o.so.c) (.slice o.sf.a o.sf.n o.sf.c);unfold set7 at KZ cm bx;obtain⟨dc,d2,dx,d5,ds,d3,dp⟩:=co KZ;refine Xzq (v := .tuple #[(⟨o.on,⟨L,o.os.n+1,P,l8 o.os ⟨0,r⟩⟩,o.hs,o.ms,o.si,o.so,o.sf⟩:St).val,.int .i64 0]) (by simp[results,results18,go_sem,St.val,dc,d2,dx,d5,ds,d3,dp]) rfl ?_;exact⟨⟨o.on,⟨L,o.os.n+1,P,l8 o.os ⟨0,r⟩⟩,o.hs,o.ms,o.si,o.so,o.sf⟩,by rw[W.out];rfl,bx.at,⟨λ_=>dz.out,λh=>absurd W.out h⟩,λ_=>bx.mono cu.out,cm⟩
theorem Na(p:Pl)(s:St)(l:Hs)(w:World)(hp:p.At w)(hs:s.At w)(hl:l.At w):
  Calls prog 32 #[p.val,s.val,l.val] w λe w'=>∃H:St,e = .returned (.tuple #[H.val,.int .i64 (gp p s l)])/\H.At w'/\dv (gp p s l) (kj s l) H/\(gp p s l=0->ai w.heap.size w' H)/\Below w.heap.size w w':=by
 obtain⟨Y,hW,bg,X0,Z0⟩:=zd w p s;have HC:Hid (∀f,Below Y.heap.size Y f->mf f w.heap.size (w.heap.size+1) p s/\p.At f/\s.At f/\Below w.heap.size w f/\Blk f (w.heap.size+2) 31 7 (λ_ => .slice .none 0 0)/\l.At f):=λf h=>⟨X0.below h,(hp.below bg).below h,(hs.below bg).below h,bg.trans (h.mono bg.size),Z0.below h,(hl.below bg).below h⟩;have HW:=hid hW;have leb:=hp.leb;have cv:=hp.capb;have les:=hp.les;have ak:=hp.caps;have capb:=cv;have caps:=ak;have ft:=Z0.lt;unfold maxLen at capb caps;have f9:=hl.le;have ct:=hl.cap;have d6:=ct;unfold maxLen at d6;clear hW X0 Z0 hp hs hl;unfold Pl.val St.val Hs.val;go_enter func32,ntmps32;go_wp2_with fail;rw[HW.out];obtain⟨X,E,D,m,t,r⟩:=HC.out Y brf;refine(lq p s Y E D).mono ?_;rintro e w1 ⟨rfl,y⟩;clear X E D m t r HW;obtain⟨⟨⟨l1,d0,d1⟩,l2,c0,c1,c2,c3,c4,c5,c6⟩,E,D,m,t,r⟩:=HC.out w1 y;by_cases h0:ah p s=0;rotate_left
 .have W:Hid (gp p s l=ah p s):=De h0;clear E D r c0 c1 c2 c3 c4 c5 c6;obtain⟨zl,ar,av,az,zc1,a1,zc2,al,zc3,a3,zc4,am,zc5,a4,ao⟩:=z7 t;go_wp2_with fail;exact g9 results32 t m (by omega) W.out h0 rfl rfl rfl
 have H0:=hid h0;have HF:Hid (cw p s):=(ew h0).fm;rw[h0];clear h0;have os4:=HF.out.os4;by_cases k1:s.os.n=4
 .have W:Hid (gp p s l=2):=x9 H0.out (Or.inl k1);have g1:(4:Int)<=(s.os.n:Int):=by omega
  have g2:4<=s.os.n:=by omega
  have g3:decide ((4:Int)<=(s.os.n:Int))=true:=decide_eq_true g1;have g4:decide (4<=s.os.n)=true:=decide_eq_true g2;clear k1 os4;clear E D r;obtain⟨zl,ar,av,az,zc1,a1,zc2,al,zc3,a3,zc4,am,zc5,a4,ao⟩:=z7 t;go_wp2_with(go_at_call 44;refine ag (cf _ _ _ _) ?_);exact g9 results32 t m (by omega) W.out (by decide) rfl rfl rfl
 have g1:¬(4:Int)<=(s.os.n:Int):=by omega
 have g2:¬4<=s.os.n:=by omega
 have g3:decide ((4:Int)<=(s.os.n:Int))=false:=decide_eq_false g1;have g4:decide (4<=s.os.n)=false:=decide_eq_false g2;cases k2:inB l.n 1 3
 .have W:Hid (gp p s l=2):=x9 H0.out (Or.inr (by have:=N0 k2;omega));clear k1 os4;clear E D r;obtain⟨zl,ar,av,az,zc1,a1,zc2,al,zc3,a3,zc4,am,zc5,a4,ao⟩:=z7 t;go_wp2_with(go_at_call 44;refine ag (cf _ _ _ _) ?_);exact g9 results32 t m (by omega) W.out (by decide) rfl rfl rfl
 have f5:=aq k2;have HM:Hid (¬(s.os.n=4\/¬(1<=l.n/\l.n<=3))):=by show ¬_;omega
 clear k1;obtain⟨bl,ol,P,-⟩:=r.hds 0 (by omega);have cc:=hid P;clear t E D r m;rw[P];clear P;go_wp2_with(go_at_call 44;refine ag (cf _ _ _ _) ?_);clear l1 d0 d1 l2 c0 c1 c2 c3 c4 c5 c6 g1 g2 g3 g4 k2 os4
 go_loopw [9] (λi f=>∃k:Nat,k<=l.n/\i = .int .i64 k/\(∀j,j<k->tg p (l.z j)=false)/\Below Y.heap.size Y f) (λi _=>l.n-(intOf i).toNat)
 case atStart=>exact⟨0,Qxz _,rfl,λj hj=>absurd hj (Qzq _),y⟩
 clear y;obtain⟨k,hk,rfl,bk,y⟩:=hrel;have HN:=hid bk;clear bk;obtain⟨⟨⟨l1,d0,d1⟩,l2,c0,c1,c2,c3,c4,c5,c6⟩,E,D,m,t,r⟩:=HC.out wr y;by_cases a9:k<l.n
 .obtain⟨b2,o2,P,ei,y0,y1,y2,y3⟩:=r.hds k a9;rw[cc.out] at P;simp only[Qkx,Qkz,and_true] at P;obtain⟨rfl,rfl⟩:=P;have J:Hid (tg p (l.z k)=(!(inB (l.z k).o 0 ((p.ns:Int)-1)) || !(inB (l.z k).l 1 200))):=rfl;have U:Hid (tg p (l.z k)=true->gp p s l=3):=λh=>Da H0.out HM.out (du a9 h);have aa:Hid (tg p (l.z k)=false->∀j,j<k+1->tg p (l.z j)=false):=λh=>ws HN.out h;have qk:(0:Int)<=(k:Int):=by omega
  generalize tg p (l.z k)=OL at *
  generalize l.z k=LZ at *
  have v0:=Qqq y0;have v1:=Qqq y1;have v2:=Qqq d0;have v3:=Qqq d1;clear y0 y1 y2 y3 d0 d1 c0 c1 c2 c3 c4 c5 c6 E D r m t l1 l2 HN;cases m1:inB LZ.o 0 ((p.ns:Int)-1)
  .have W:Hid (gp p s l=3):=U.out (by rw[J.out,m1];rfl);clear U aa J;go_wp2_with fail;refine Qxq (by kernel_rfl) (by kernel_rfl) ?_
   repeat(go_big_quiet_step(first|(go_at_call 82;exact Xxz (ue p _ _ les ak))|(go_at_call 44;exact Xxz ((cf _ _ _ _).mono (λ_ _ h=>⟨h.1,h.2▸Below.refl _ _⟩)))))
   refine Qqz ?_;intro w9 aj;have bh:Below Y.heap.size Y w9:=by obtain⟨⟨dq,dh⟩,au⟩:=aj;subst au;exact y.trans ((Qxx _ _ _).mono y.size)
   clear aj v0 v1 v2 v3 y;obtain⟨⟨⟨l1,d0,d1⟩,l2,c0,c1,c2,c3,c4,c5,c6⟩,E,D,m,t,r⟩:=HC.out w9 bh;clear E D r;obtain⟨zl,ar,av,az,zc1,a1,zc2,al,zc3,a3,zc4,am,zc5,a4,ao⟩:=z7 t;go_wp2_with fail;exact g9 results32 t m (by omega) W.out (by decide) rfl rfl rfl
  cases m2:inB LZ.l 1 200
  .have W:Hid (gp p s l=3):=U.out (by rw[J.out,m1,m2];rfl);clear U aa J;go_wp2_with fail;refine Qxq (by kernel_rfl) (by kernel_rfl) ?_
   repeat(go_big_quiet_step(first|(go_at_call 82;exact Xxz (ue p _ _ les ak))|(go_at_call 44;exact Xxz ((cf _ _ _ _).mono (λ_ _ h=>⟨h.1,h.2▸Below.refl _ _⟩)))))
   refine Qqz ?_;intro w9 aj;have bh:Below Y.heap.size Y w9:=by obtain⟨⟨dq,dh⟩,au⟩:=aj;subst au;exact y.trans ((Qxx _ _ _).mono y.size)
   clear aj v0 v1 v2 v3 y;obtain⟨⟨⟨l1,d0,d1⟩,l2,c0,c1,c2,c3,c4,c5,c6⟩,E,D,m,t,r⟩:=HC.out w9 bh;clear E D r;obtain⟨zl,ar,av,az,zc1,a1,zc2,al,zc3,a3,zc4,am,zc5,a4,ao⟩:=z7 t;go_wp2_with fail;exact g9 results32 t m (by omega) W.out (by decide) rfl rfl rfl
  have cb:Hid _:=aa.out (by rw[J.out,m1,m2];rfl);clear U aa J;go_wp2_with fail;refine Qxq (by kernel_rfl) (by kernel_rfl) ?_
  repeat(go_big_quiet_step(first|(go_at_call 82;exact Xxz (ue p _ _ les ak))|(go_at_call 44;exact Xxz ((cf _ _ _ _).mono (λ_ _ h=>⟨h.1,h.2▸Below.refl _ _⟩)))))
  refine Qqz ?_;intro w9 aj;have bh:Below Y.heap.size Y w9:=by obtain⟨⟨dq,dh⟩,au⟩:=aj;subst au;exact y.trans ((Qxx _ _ _).mono y.size)
  clear aj v0 v1 v2 v3 y;go_wp2_with fail;go_roundw
  case rel=>exact⟨k+1,by omega,by go_num,cb.out,bh⟩
  case measure=>simp[intOf];omega
 have K3:Hid (¬aw l.n (λj=>tg p (l.z j))=true):=by show ¬_;rw[cu λj hj=>HN.out j (by omega)];decide
 clear HN E D r m t l1 d0 d1 l2 c0 c1 c2 c3 c4 c5 c6;go_wp2_with fail;clear hk a9
 go_loopw [10] (λi f=>∃k:Nat,k<=l.n/\i = .int .i64 k/\(∀j,j<k->o6 (l.z j)=false)/\Below Y.heap.size Y f) (λi _=>l.n-(intOf i).toNat)
 case atStart=>exact⟨0,Qxz _,rfl,λj hj=>absurd hj (Qzq _),y⟩
 clear y;obtain⟨k,hk,rfl,bk,y⟩:=hrel;have HN:=hid bk;clear bk;obtain⟨⟨⟨l1,d0,d1⟩,l2,c0,c1,c2,c3,c4,c5,c6⟩,E,D,m,t,r⟩:=HC.out wr y;by_cases a9:k<l.n
 .obtain⟨b2,o2,P,ei,y0,y1,y2,y3⟩:=r.hds k a9;rw[cc.out] at P;simp only[Qkx,Qkz,and_true] at P;obtain⟨rfl,rfl⟩:=P;have J:Hid (o6 (l.z k)=((l.z k).b !=0||(l.z k).n !=0)):=rfl;have U:Hid (o6 (l.z k)=true->gp p s l=1):=λh=>D9 H0.out HM.out K3.out (du a9 h);have aa:Hid (o6 (l.z k)=false->∀j,j<k+1->o6 (l.z j)=false):=λh=>ws HN.out h;have qk:(0:Int)<=(k:Int):=by omega
  generalize o6 (l.z k)=OL at *
  generalize l.z k=LZ at *
  clear c0 c1 c2 c3 c4 c5 c6 E D r HN;cases m1:(LZ.b !=0)
  .cases m2:(LZ.n !=0)
   .have cb:Hid _:=aa.out (by rw[J.out,m1,m2];rfl);clear U aa J t m;go_wp2_with fail;go_roundw
    case rel=>exact⟨k+1,by omega,by go_num,cb.out,y⟩
    case measure=>simp[intOf];omega
   have W:Hid (gp p s l=1):=U.out (by rw[J.out,m1,m2];rfl);clear U aa J;obtain⟨zl,ar,av,az,zc1,a1,zc2,al,zc3,a3,zc4,am,zc5,a4,ao⟩:=z7 t;go_wp2_with fail;exact g9 results32 t m (by omega) W.out (by decide) rfl rfl rfl
  have W:Hid (gp p s l=1):=U.out (by rw[J.out,m1];rfl);clear U aa J;obtain⟨zl,ar,av,az,zc1,a1,zc2,al,zc3,a3,zc4,am,zc5,a4,ao⟩:=z7 t;go_wp2_with fail;exact g9 results32 t m (by omega) W.out (by decide) rfl rfl rfl
 have W:Hid (gp p s l=0):=Ok H0.out HM.out K3.out (by rw[cu λj hj=>HN.out j (by omega)];decide);clear K3 HM HN;have fd:=t.lt;have d7:=hid m.size;have dj:=pr p s wr D HF.out;have df:Hid _:=dj;have dl:=hid r;clear dj t r E D;go_wp2_with fail;refine Calls.mono df.out ?_;rintro e L ⟨o,rfl,F,bf,bw⟩;clear df;have dr:=y.trans (bw.mono y.size);have q3:=y.size;have q4:=bw.size;obtain⟨W5,dd,an,bt⟩:=ab7 L o;have dc:=hid dd;have cl:=dr.trans (an.mono dr.size);have bx:=ai.below bf an;have b6:=(dl.out.below bw).below an;have q5:=an.size;have gb:o.os.n<=4:=by have:=HF.out.os4;have:o.os.n=s.os.n:=F.os.1;omega
 clear l1 d0 d1 l2 c0 c1 c2 c3 c4 c5 c6 m fd dd;simp only[St.val];go_wp2_with fail;rw[dc.out];have ec:=qa3 bx bt F;have e9:=hid b6;have r0:=Qqq (bt.k 1);have gc:L.heap.size<W5.heap.size:=bt.lt;clear bf bx bt F b6 dl dc an bw;obtain⟨iO,hO,el,eq,eu⟩:=info_parts Ca;obtain⟨iL,hL,es,e0,e3⟩:=info_parts Dm;refine td (λw'=>∃p:Regrown,w'=grow (redrawn W5 p.d) p.os) [0,1,3] [2,4,5,6] [(true,7),(true,8),(true,9)] (Qqx (brf.drew)) ?_;simp only[dw,Qyq,Xqq,Qyx,Qyz,Xqz,Xqx]
 repeat(go_big_quiet_step(fail))
 refine Qqz ?_;clear r0;refine⟨λj v g f=>match j with|4=>DHs W5.heap.size 68 l v g f|5=>D16 W5.heap.size ⟨0,l⟩ v g f|6=>D17 W5.heap.size ⟨0,l⟩ v g f|_=>DE v g,
  Qjx ⟨λv g w w' _ h=>h,Qjx ⟨λv g w w' y h=>DHs.below h y,Qjx ⟨λv g w w' y h=>D16.below h y,Qjx ⟨λv g w w' y h=>D17.below h y,Qjq _⟩⟩⟩⟩,
  Qjx ⟨λv g w h=>by obtain⟨_,h1,_⟩:=h;rw[h1];intro x hx;simp at hx,Qjx ⟨λv g w h=>by obtain⟨_,h1,_⟩:=h;rw[h1];intro x hx;simp at hx,Qjx ⟨λv g w h=>by obtain⟨_,h1,_⟩:=h;rw[h1];intro x hx;simp at hx,Qjx ⟨λv g w h=>by obtain⟨_,_,h1,_⟩:=h;rw[h1];intro x hx;simp at hx,Qjq _⟩⟩⟩⟩,
  Qjx ⟨?zt2,Qjx ⟨?zt3,Qjx ⟨?zt4,Qjx ⟨?zt5,Qjq _⟩⟩⟩⟩,?ztdone⟩
 case zt2 =>
  intro V G f K hS hd hA hK;have M:=af hS;refine ay 2 rfl ?_;simp only[ap,bu,Qvz,Qwq,Qvx,Act.put,Qvq,Qwx,Qwz] at hK ⊢;go_wp2_with fail;exact hK _ [] _ (Qqx (M.alloc M.size _)) (brf.alloc nlr _) (λx hx=>by simp at hx) ⟨f.heap.size,rfl,rfl⟩
 case zt3 =>
  intro V G f K hS hd hA hK;have M:=af hS;have q:=M.size;obtain⟨B,-,h3⟩:DE (V 2) (G 2):=hd 2 (Qjz (by kernel_rfl)) (by simp);refine ay 4 rfl ?_;simp only[ap,bu,Qvz,Qwq,Qvx,Act.put,Qvq,Qwx,Qwz,h3] at hK ⊢;go_wp2_with(at_builtin;refine ny f rfl (.tmp 79) (.tmp 80) 32 rfl 68 iL (.agg #[.int .i64 0,.int .i64 0,.int .i64 0,.int .i64 0]) 4 32 underlying32 hL es e0 e3 rfl (by decide) B rfl (some ⟨bl,ol,none⟩) l.n l.c (ax l.n l.z) rfl (by rw[ed]) (λad ha=>I5 (e9.out.below M) ad (cc.out.trans ha)) (me _ _) (λh=>by cases h) (by unfold maxLen;omega) (by omega) ?_ ?_)
  .intro h0;exact absurd h0 (by omega)
  intro h0 v' w1 bf cz;have de:Below f.heap.size f w1:=(Below.refl _ f).grown cz nlr (by intro k hk;cases hk);obtain⟨H,rfl,hc⟩:=A9 (A:=W5.heap.size) h0 bf (by omega);exact mg (hK _ [] _ (Qqx (M.trans (de.mono M.size))) de (λx hx=>by simp at hx) ⟨H,rfl,rfl,hc⟩)
 case zt4 =>
  intro V G f K hS hd hA hK;obtain⟨H,-,eo,hc⟩:DHs W5.heap.size 68 l (V 4) (G 4) f:=hd 4 (Qjz (by kernel_rfl)) (by simp);have a8:Hid (pi W5.heap.size 68 l f H):=hc;clear hc;refine ay 5 rfl ?_;simp only[ap,bu,Qvz,Qwq,Qvx,Act.put,Qvq,Qwx,Qwz,eo] at hK ⊢;go_wp2_with fail;exact hK _ [] _ hS brf (λx hx=>by simp at hx) ⟨H,rfl,rfl,a8.out⟩
 case zt5 =>
  intro V G f K hS hd hA hK;have M:=af hS;obtain⟨H,-,ep,hc⟩:D16 W5.heap.size ⟨0,l⟩ (V 5) (G 5) f:=hd 5 (Qjz (by kernel_rfl)) (by simp);have a8:Hid (pi W5.heap.size 68 l f H):=hc;clear hc;refine ay 6 rfl ?_;simp only[ap,bu,Qvz,Qwq,Qvx,Act.put,Qvq,Qwx,Qwz,ep] at hK ⊢;go_wp2_with fail;have di:=(Below.refl f.heap.size f).alloc nlr (.cells #[.int .i64 0,.slice H.a H.n H.c] 66);exact hK _ [] _ (Qqx (M.alloc M.size _)) (brf.alloc nlr _) (λx hx=>by simp at hx) ⟨f.heap.size,H,rfl,rfl,M.size,Blk.mk' rfl rfl,a8.out.1,a8.out.2.1,a8.out.2.2.1.below di,a8.out.2.2.2.below di⟩
 case ztdone =>
  intro V G' f hS hD hA;obtain⟨BO,H,-,eh,f3,c8,e1,e2,⟨o1,o2,o3,o4⟩,-⟩:D17 W5.heap.size ⟨0,l⟩ (V 6) (G' 6) f:=hD 6 (by simp);have M:=af hS;have q1:=M.size;obtain⟨gB,ea,cg,kB⟩:=o4 (by rw[e1];show 0<l.n;omega);obtain⟨b9,K5,F⟩:=ec.out;have c9:=ai.below b9 M;have K6:=K5.below M;have db:=cl.trans (M.mono cl.size);have HE:=qa8 e1 e2 ea o1 o2 kB F cg;have ac:=qa2 c9 b9;have da:=hid K6;have cj:=hid db;have bo:=hid c8;clear hS hD hA e1 e2 ea o1 o2 o3 o4 kB b9 K5 F c9 K6 db c8 cl;simp only[ap,bu,Qvz,Qwq,Qvx,Act.put,Qvq,Qwx,Qwz,eh];refine dk 7 rfl ?_;go_wp2_with(at_builtin;refine tc f rfl (.tmp 78) (.tmp 83) 27 rfl wr.heap.size 66 iO (.agg #[.int .i64 0,.slice none 0 0]) 2 32 underlying27 hO el eq eu rfl (by decide) o.os.a o.os.n o.os.c (jn o.os.n o.os.z) rfl ac.out.1.os.room ac.out.1.os.le ac.out.1.os.cap (sw _ _) ac.out.1.os.list ⟨BO,0,none⟩ 1 1 [.int .i64 0,.slice H.a H.n H.c] rfl rfl ?zc1 ?zc2 (by decide) ?zc3 ?zc4 ?zc5 ?_)
  case zc1 =>
   intro j u hj
   match j,hj with
   | 0,hj=>simp at hj;subst hj;exact bo.out.k 0
   | 1,hj=>simp at hj;subst hj;exact bo.out.k 1
  case zc2=>exact⟨rfl,rfl⟩
  case zc3=>unfold maxLen;omega
  case zc4=>omega
  case zc5=>omega
  intro v2 w2 bv S;obtain⟨e1,e2,ea,o1,o2,kB,F,cg⟩:=HE.out;obtain⟨Q,T,rfl,dp⟩:=j7.more (x:=⟨0,H⟩) ac.out.1.os bv S ea (by omega) o1 o2 kB (λi hi e=>by
   obtain⟨B,x1,x2,x3,x4,x5⟩:=ac.out.2.os.lines i hi;rw[x1] at e;have e':=e.trans ea;simp only[Qkx,Qkz,and_true] at e';have:=x5.lt;omega)
  have b4:=ac.out.1.orders S dp;have dg:=S.below cj.out (by omega) (by have:=cj.out.size;omega);have K7:=S.blk da.out (by decide);have xl:=K7.lt;have f1:=K7.frozen 1;have f7:=K7.k 1;have K8:=K7.set 1 (.slice Q (o.os.n+1) T);have c7:=b4.box K7 1 (.slice Q (o.os.n+1) T);have dn:=dg.setCell (p:=⟨L.heap.size,1,none⟩) (by show Y.heap.size<=L.heap.size;omega) (.slice Q (o.os.n+1) T);have fa:Hid (ae ⟨o.on,⟨Q,o.os.n+1,T,l8 o.os ⟨0,H⟩⟩,o.hs,o.ms,o.si,o.so,o.sf⟩ (kj s l)):=Kz F e1 e2;obtain⟨-,-,-,cm,b8,-⟩:=HC.out _ dn;have dy:=qa3 c7 cm b8;have m8:=K8.lt;have gd:(w2.setCell ⟨L.heap.size,1,none⟩ (.slice Q (o.os.n+1) T)).cell? ⟨L.heap.size,0,none⟩=some (.slice o.on.a o.on.n o.on.c):=K8.k 0;have f8:(w2.setCell ⟨L.heap.size,1,none⟩ (.slice Q (o.os.n+1) T)).cell? ⟨L.heap.size,1,none⟩=some (.slice Q (o.os.n+1) T):=K8.k 1;have ga:(w2.setCell ⟨L.heap.size,1,none⟩ (.slice Q (o.os.n+1) T)).cell? ⟨L.heap.size,2,none⟩=some (.slice o.hs.a o.hs.n o.hs.c):=K8.k 2;have f6:(w2.setCell ⟨L.heap.size,1,none⟩ (.slice Q (o.os.n+1) T)).cell? ⟨L.heap.size,3,none⟩=some (.slice o.ms.a o.ms.n o.ms.c):=K8.k 3;have f2:(w2.setCell ⟨L.heap.size,1,none⟩ (.slice Q (o.os.n+1) T)).cell? ⟨L.heap.size,4,none⟩=some (.slice o.si.a o.si.n o.si.c):=K8.k 4;have f4:(w2.setCell ⟨L.heap.size,1,none⟩ (.slice Q (o.os.n+1) T)).cell? ⟨L.heap.size,5,none⟩=some (.slice o.so.a o.so.n o.so.c):=K8.k 5;have f0:(w2.setCell ⟨L.heap.size,1,none⟩ (.slice Q (o.os.n+1) T)).cell? ⟨L.heap.size,6,none⟩=some (.slice o.sf.a o.sf.n o.sf.c):=K8.k 6;obtain⟨zl,ar,av,az,zc1,a1,zc2,al,zc3,a3,zc4,am,zc5,a4,ao⟩:=z7 b8;clear bv S dp b4 dg K7 K8 c7 dn cm b8 HE ac da cj bo kB F e1 e2 ea o1 o2 cg M;refine mg ⟨jq.yes,?_⟩;refine dk 8 rfl ?_;go_wp2_with fail;refine⟨jq.yes,?_⟩;refine dk 9 rfl ?_;go_wp2_with fail;refine⟨jq.yes,?_⟩;refine NoPanic.normal ?_;go_wp2_with fail;obtain⟨en,m,t⟩:=dy.out;have KZ:=rp t (.slice o.on.a o.on.n o.on.c) (.slice Q (o.os.n+1) T) (.slice o.hs.a o.hs.n o.hs.c) (.slice o.ms.a o.ms.n o.ms.c) (.slice o.si.a o.si.n o.si.c) (.slice o.so.a o.so.n o.so.c) (.slice o.sf.a o.sf.n o.sf.c);have dm:=na (b:=w.heap.size+2) m (by omega) (.slice o.on.a o.on.n o.on.c) (.slice Q (o.os.n+1) T) (.slice o.hs.a o.hs.n o.hs.c) (.slice o.ms.a o.ms.n o.ms.c) (.slice o.si.a o.si.n o.si.c) (.slice o.so.a o.so.n o.so.c) (.slice o.sf.a o.sf.n o.sf.c);have ck:=ai.set7 en t (.slice o.on.a o.on.n o.on.c) (.slice Q (o.os.n+1) T) (.slice o.hs.a o.hs.n o.hs.c) (.slice o.ms.a o.ms.n o.ms.c) (.slice o.si.a o.si.n o.si.c) (.slice o.so.a o.so.n o.so.c) (.slice o.sf.a o.sf.n o.sf.c);unfold set7 at KZ dm ck;obtain⟨ej,fb,e8,ff,e4,fc,ex⟩:=co KZ;refine Xzq (v := .tuple #[(⟨o.on,⟨Q,o.os.n+1,T,l8 o.os ⟨0,H⟩⟩,o.hs,o.ms,o.si,o.so,o.sf⟩:St).val,.int .i64 0]) (by simp[results,results32,go_sem,St.val,ej,fb,e8,ff,e4,fc,ex]) rfl ?_;exact⟨⟨o.on,⟨Q,o.os.n+1,T,l8 o.os ⟨0,H⟩⟩,o.hs,o.ms,o.si,o.so,o.sf⟩,by rw[W.out];rfl,ck.at,⟨λ_=>fa.out,λh=>absurd W.out h⟩,λ_=>ck.mono d7.out,dm⟩
structure Lq(w:World)(g:Nat)(a k:Int):Prop where
 b0:Blk w (g) 3 2 (λj=>(#[.int .i64 9,.int .i64 0]:Array Value).getD j default)
 b1:Blk w (g+1) 3 2 (λj=>(#[.int .i64 3,.int .i64 0]:Array Value).getD j default)
 b2:Blk w (g+2) 3 2 (λj=>(#[.int .i64 0,.int .i64 6]:Array Value).getD j default)
 b3:Blk w (g+3) 23 3 (λj=>(#[.slice (some ⟨g,0,none⟩) 2 2,.slice (some ⟨g+1,0,none⟩) 2 2,.slice (some ⟨g+2,0,none⟩) 2 2]:Array Value).getD j default)
 b4:Blk w (g+4) 68 8 (λj=>(#[.int .i64 0,.int .i64 6,.int .i64 1,.int .i64 0,.int .i64 1,.int .i64 9,.int .i64 0,.int .i64 3]:Array Value).getD j default)
 b5:Blk w (g+5) 68 4 (λj=>(#[.int .i64 0,.int .i64 4,.int .i64 0,.int .i64 0]:Array Value).getD j default)
 b6:Blk w (g+6) 66 4 (λj=>(#[.int .i64 1,.slice (some ⟨g+4,0,none⟩) 2 2,.int .i64 k,.slice (some ⟨g+5,0,none⟩) 1 1]:Array Value).getD j default)
 b7:Blk w (g+7) 103 12 (λj=>(#[.int .i64 0,.int .i64 0,.int .i64 0,.int .i64 a,.int .i64 0,.int .i64 0,.int .i64 1,.int .i64 3,.int .i64 0,.int .i64 1,.int .i64 2,.int .i64 6]:Array Value).getD j default)
 b8:Blk w (g+8) 77 4 (λj=>(#[.int .i64 0,.int .i64 0,.int .i64 1,.int .i64 5]:Array Value).getD j default)
 b9:Blk w (g+9) 3 2 (λj=>(#[.int .i64 13,.int .i64 6]:Array Value).getD j default)
 b10:Blk w (g+10) 3 2 (λj=>(#[.int .i64 1,.int .i64 0]:Array Value).getD j default)
 b11:Blk w (g+11) 3 2 (λj=>(#[.int .i64 0,.int .i64 0]:Array Value).getD j default)
theorem Lq.below{a k:Int}(h:Lq w g a k)(b:Below w.heap.size w c):Lq c g a k:=⟨h.b0.below b,h.b1.below b,h.b2.below b,h.b3.below b,h.b4.below b,h.b5.below b,h.b6.below b,h.b7.below b,h.b8.below b,h.b9.below b,h.b10.below b,h.b11.below b⟩
def bz0:Nat->Int
 | 0=>9
 | _=>0
def bz1:Nat->Int
 | 0=>3
 | _=>0
def bz2:Nat->Int
 | 0=>0
 | _=>6
def bzi:Nat->Int
 | 0=>13
 | _=>6
def bzo:Nat->Int
 | 0=>1
 | _=>0
def bl0:Nat->Hd
 | 0=>⟨0,6,1,0⟩
 | _=>⟨1,9,0,3⟩
def bhs(a:Int):Nat->Hd
 | 0=>⟨0,0,0,a⟩
 | 1=>⟨0,0,1,3⟩
 | _=>⟨0,1,2,6⟩
def bon(g:Nat):Nat->Rw
 | 0=>⟨some ⟨g,0,none⟩,2,2,bz0⟩
 | 1=>⟨some ⟨g+1,0,none⟩,2,2,bz1⟩
 | _=>⟨some ⟨g+2,0,none⟩,2,2,bz2⟩
def bos(g:Nat)(k:Int):Nat->Od
 | 0=>⟨1,⟨some ⟨g+4,0,none⟩,2,2,bl0⟩⟩
 | _=>⟨k,⟨some ⟨g+5,0,none⟩,1,1,λ_=>⟨0,4,0,0⟩⟩⟩
def Fe(g:Nat)(a k:Int):St:=⟨⟨some ⟨g+3,0,none⟩,3,3,bon g⟩,⟨some ⟨g+6,0,none⟩,2,2,bos g k⟩,⟨some ⟨g+7,0,none⟩,3,3,bhs a⟩,⟨some ⟨g+8,0,none⟩,1,1,λ_=>⟨0,0,1,5⟩⟩,⟨some ⟨g+9,0,none⟩,2,2,bzi⟩,⟨some ⟨g+10,0,none⟩,2,2,bzo⟩,⟨some ⟨g+11,0,none⟩,2,2,λ_=>0⟩⟩
theorem Cy(h:n<=100):n<=maxLen:=by unfold maxLen;omega
theorem Ez{x y:Int}{z:Nat->Int}(h:Blk w g e 2 (λj=>(#[.int .i64 x,.int .i64 y]:Array Value).getD j default))(b:z 0=x)(c:z 1=y):Rw.At w ⟨some ⟨g,0,none⟩,2,2,z⟩:=by
 refine⟨Nat.le_refl _,Cy (n:=2) (by decide),λi hi => ?_⟩;have a:i<2:=hi;refine⟨g,0,rfl,h.lt,?_⟩
 match i,a with
 | 0,_=>show w.cell? ⟨g,0+0,none⟩=some (.int .i64 (z 0));rw[b];exact h.k 0
 | 1,_=>show w.cell? ⟨g,0+1,none⟩=some (.int .i64 (z 1));rw[c];exact h.k 1
theorem aa5{a k:Int}(h:Lq w g a k):(Fe g a k).At w:=by
 refine⟨⟨Nat.le_refl _,Cy (n:=3) (by decide),λi hi => ?_⟩,⟨Nat.le_refl _,Cy (n:=2) (by decide),λi hi => ?_⟩,⟨Nat.le_refl _,Cy (n:=3) (by decide),λi hi => ?_,λe=>by cases e⟩,⟨Nat.le_refl _,Cy (n:=1) (by decide),λi hi => ?_,λe=>by cases e⟩,Ez h.b9 rfl rfl,Ez h.b10 rfl rfl,Ez h.b11 rfl rfl⟩
 .have b:i<3:=hi;refine⟨g+3,0,rfl,h.b3.lt,?_⟩
  match i,b with
  | 0,_=>exact⟨h.b3.k 0,Ez h.b0 rfl rfl⟩
  | 1,_=>exact⟨h.b3.k 1,Ez h.b1 rfl rfl⟩
  | 2,_=>exact⟨h.b3.k 2,Ez h.b2 rfl rfl⟩
 rotate_left
 .have b:i<3:=hi;refine⟨g+7,0,rfl,h.b7.lt,?_⟩
  match i,b with
  | 0,_=>exact⟨h.b7.k 0,h.b7.k 1,h.b7.k 2,h.b7.k 3⟩
  | 1,_=>exact⟨h.b7.k 4,h.b7.k 5,h.b7.k 6,h.b7.k 7⟩
  | 2,_=>exact⟨h.b7.k 8,h.b7.k 9,h.b7.k 10,h.b7.k 11⟩
 .have b:i<1:=hi;refine⟨g+8,0,rfl,h.b8.lt,?_⟩
  match i,b with
  | 0,_=>exact⟨h.b8.k 0,h.b8.k 1,h.b8.k 2,h.b8.k 3⟩
 have b:i<2:=hi;refine⟨g+6,0,rfl,h.b6.lt,?_⟩
 match i,b with
 | 0,_ =>
  refine⟨h.b6.k 0,h.b6.k 1,Nat.le_refl _,Cy (n:=2) (by decide),λj d => ?_,λe=>by cases e⟩;have c:j<2:=d;refine⟨g+4,0,rfl,h.b4.lt,?_⟩
  match j,c with
  | 0,_=>exact⟨h.b4.k 0,h.b4.k 1,h.b4.k 2,h.b4.k 3⟩
  | 1,_=>exact⟨h.b4.k 4,h.b4.k 5,h.b4.k 6,h.b4.k 7⟩
 | 1,_ =>
  refine⟨h.b6.k 2,h.b6.k 3,Nat.le_refl _,Cy (n:=1) (by decide),λj d => ?_,λe=>by cases e⟩;have c:j<1:=d;refine⟨g+5,0,rfl,h.b5.lt,?_⟩
  match j,c with
  | 0,_=>exact⟨h.b5.k 0,h.b5.k 1,h.b5.k 2,h.b5.k 3⟩
theorem Yo(w:World):
  Calls prog 26 #[] w λe a=>∃g,e = .returned (Fe g 2 0).val/\w.heap.size<g/\Lq a g 2 0/\Below w.heap.size w a:=by
 go_enter func26,ntmps26
 go_wp2
 refine Xzq (v:=(Fe (w.heap.size+1) 2 0).val) (by simp[results,results26,go_sem,Fe,St.val]) rfl ?_;refine⟨w.heap.size+1,rfl,by omega,⟨Blk.alloc (Blk.alloc (Blk.alloc (Blk.alloc (Blk.alloc (Blk.alloc (Blk.alloc (Blk.alloc (Blk.alloc (Blk.alloc (Blk.alloc (Blk.mk' (by simp<;>omega) rfl) _) _) _) _) _) _) _) _) _) _) _,Blk.alloc (Blk.alloc (Blk.alloc (Blk.alloc (Blk.alloc (Blk.alloc (Blk.alloc (Blk.alloc (Blk.alloc (Blk.alloc (Blk.mk' (by simp<;>omega) rfl) _) _) _) _) _) _) _) _) _) _,Blk.alloc (Blk.alloc (Blk.alloc (Blk.alloc (Blk.alloc (Blk.alloc (Blk.alloc (Blk.alloc (Blk.alloc (Blk.mk' (by simp<;>omega) rfl) _) _) _) _) _) _) _) _) _,Blk.alloc (Blk.alloc (Blk.alloc (Blk.alloc (Blk.alloc (Blk.alloc (Blk.alloc (Blk.alloc (Blk.mk' (by simp<;>omega) rfl) _) _) _) _) _) _) _) _,Blk.alloc (Blk.alloc (Blk.alloc (Blk.alloc (Blk.alloc (Blk.alloc (Blk.alloc (Blk.mk' (by simp<;>omega) rfl) _) _) _) _) _) _) _,Blk.alloc (Blk.alloc (Blk.alloc (Blk.alloc (Blk.alloc (Blk.alloc (Blk.mk' (by simp<;>omega) rfl) _) _) _) _) _) _,Blk.alloc (Blk.alloc (Blk.alloc (Blk.alloc (Blk.alloc (Blk.mk' (by simp<;>omega) rfl) _) _) _) _) _,Blk.alloc (Blk.alloc (Blk.alloc (Blk.alloc (Blk.mk' (by simp<;>omega) rfl) _) _) _) _,Blk.alloc (Blk.alloc (Blk.alloc (Blk.mk' (by simp<;>omega) rfl) _) _) _,Blk.alloc (Blk.alloc (Blk.mk' (by simp<;>omega) rfl) _) _,Blk.alloc (Blk.mk' (by simp<;>omega) rfl) _,Blk.mk' (by simp<;>omega) rfl⟩,?_⟩;exact((((((((((((brf.alloc nlr _).alloc (by simp<;>omega) _).alloc (by simp<;>omega) _).alloc (by simp<;>omega) _).alloc (by simp<;>omega) _).alloc (by simp<;>omega) _).alloc (by simp<;>omega) _).alloc (by simp<;>omega) _).alloc (by simp<;>omega) _).alloc (by simp<;>omega) _).alloc (by simp<;>omega) _).alloc (by simp<;>omega) _).alloc (by simp<;>omega) _
theorem Ia{f:Nat->Bool}(h:n=0):aw n f=false:=cu λj a=>absurd a (by omega)
theorem um{z:Nat->Int}:∀{n:Nat},(∀j,j<n->z j=0)->cv z n=0
 | 0,_=>rfl
 | n+1,h=>by simp only[cv];rw[um (n:=n) λj a=>h j (by omega),h n (by omega)];rfl
theorem Sy(a:iz p=0)(b:Ag p s):tr p s.on :=
 ⟨Lt a,b.1,λi hi=>(b.2.1 i (by have:=b.1;omega)).1,λi hi j c=>by rw[(b.2.1 i (by have:=b.1;omega)).2 j c];omega⟩
theorem R1(b:Ag p s)(hi:i<p.nb)(c:j<p.ns):ar s i j=0:=by
 obtain⟨-,a,-,e,d,-⟩:=b;unfold ar;rw[e,d,(a i hi).2 j c]
 rfl
theorem Iw{r:Rw}(h:r.n=p.ns/\∀j,j<p.ns->r.z j=0)(a:W<=0):lu p r W=false:=by
 unfold lu;rw[Xxq];refine⟨by simp[h.1],cu λj b => ?_⟩;rw[h.2 j (by rw[<-h.1];exact b),bq ⟨a,by omega⟩]
 rfl
theorem Jo(j:iz p=0)(b:Ag p s):ah p s=0:=by
 have m:=vw j (Sy j b);have u:=b;obtain⟨x,q,c,l,e,f,h,d⟩:=u;have t:gh s=false:=by unfold gh;rw[c,e];rfl
 have o:jh p s=false:=Ia c;have n:gu p s=false:=by unfold gu;rw[l];rfl
 have v:j9 p s=false:=Ia e;have r:fo p s=false:=by
  unfold fo;rw[Iw f (by omega),Iw h (by omega),Iw d (by omega)]
  rfl
 have w:kw p s=false:=cu λg a=>by
  rw[pq,um (λi hi=>(q i (by omega)).2 g a),f.2 g a,h.2 g a,d.2 g a,cu λi hi=>by rw[R1 b hi a];rfl]
  rfl
 have k:jf s=false:=Ia c;rw[Ae m t o n v r,w,k]
 rfl
theorem Jp{l:Hs}(h:gp p s l=0):ah p s=0/\1<=l.n/\l.n<=3/\¬s.os.n=4/\aw l.n (λj=>tg p (l.z j))=false/\aw l.n (λj=>o6 (l.z j))=false:=by
 by_cases a:ah p s=0
 .by_cases b:s.os.n=4\/¬(1<=l.n/\l.n<=3)
  .rw[x9 a b] at h;exact absurd h (by decide)
  cases c:aw l.n (λj=>tg p (l.z j))
  .cases d:aw l.n (λj=>o6 (l.z j))
   .exact⟨a,by omega,by omega,by omega,rfl,rfl⟩
   rw[D9 a b (by rw[c];decide) d] at h;exact absurd h (by decide)
  rw[Da a b c] at h;exact absurd h (by decide)
 rw[De a] at h;exact absurd h a
theorem kq(h:ii p s g=false):cv (λi=>(s.on.r i).z g) s.on.n=s.si.z g-s.so.z g+s.sf.z g/\∀b,b<p.nb->0<=ar s b g:=by
 rw[pq,Xxq] at h;refine⟨by simpa using h.1,λb a => ?_⟩;have:=dj h.2 b a
 simpa using this
theorem rt(d:cv (λi=>(s.on.r i).z g) s.on.n=s.si.z g-s.so.z g+s.sf.z g)(c:∀b,b<p.nb->0<=ar s b g):ii p s g=false:=by
 rw[pq,Xxq];exact⟨by simp[d],cu λb a=>by have:=c b a;simpa using this⟩
theorem Jn{bin good n:Int}(h:gw p s bin good n=0):ah p s=0/\(0<=bin/\bin<p.nb)/\(0<=good/\good<p.ns)/\(1<=n/\n<=200)/\n*p.zs good.toNat<=gj p s bin.toNat/\dx s bin.toNat good.toNat+n<=200/\s.si.z good.toNat+n<=1048576:=by
 unfold gw at h;by_cases e:ah p s=0;rotate_left
 .rw[if_neg e] at h;exact absurd h e
 rw[if_pos e] at h;cases d:(inB bin 0 ((p.nb:Int)-1)&&inB good 0 ((p.ns:Int)-1)&&inB n 1 200)
 .rw[d] at h;simp at h
 rw[d] at h;simp only[if_true] at h;simp only[Xxx] at d;have a:=aq d.1.1;have b:=aq d.1.2;have c:=aq d.2;by_cases f:gj p s bin.toNat<n*p.zs good.toNat
 .rw[if_pos f] at h;simp at h
 rw[if_neg f] at h;by_cases g:200<dx s bin.toNat good.toNat+n\/1048576<s.si.z good.toNat+n
 .rw[if_pos g] at h;simp at h
 exact⟨e,by omega,by omega,c,by omega,by omega,by omega⟩
section
variable {p:Pl} {s:St} {b g:Nat} {n:Int}
theorem Fo(i j:Nat):((li s b g n).on.r i).z j=(s.on.r i).z j+if i=b/\j=g then n else 0:=by
 show(if i=b then ku (s.on.r i) g ((s.on.r b).z g+n) else s.on.r i).z j=_;by_cases hi:i=b
 .subst hi;rw[if_pos rfl];show(if j=g then(s.on.r i).z g+n else(s.on.r i).z j)=_;by_cases a:j=g
  .subst a;simp
  simp[a]
 rw[if_neg hi];simp[hi]
theorem Zi(i:Nat):((li s b g n).on.r i).n=(s.on.r i).n:=by
 show(if i=b then ku (s.on.r i) g ((s.on.r b).z g+n) else s.on.r i).n=_;by_cases hi:i=b
 .rw[if_pos hi];rfl
 rw[if_neg hi]
theorem S5(j:Nat):(li s b g n).si.z j=s.si.z j+if j=g then n else 0:=by
 show(if j=g then s.si.z g+n else s.si.z j)=_;by_cases a:j=g
 .subst a;simp
 simp[a]
theorem Ub(i j:Nat):ar (li s b g n) i j=ar s i j+if i=b/\j=g then n else 0:=by
 unfold ar;have a:ca (li s b g n) i j (li s b g n).hs.n=ca s i j s.hs.n:=ri (λ_ _=>rfl) (λ_ _=>rfl);have c:az (li s b g n) i j (li s b g n).ms.n=az s i j s.ms.n:=ow (λ_ _=>rfl);rw[Fo,a,c];omega
theorem Vf(r:au p s)(l:b<p.nb)(q:g<p.ns)(t:1<=n)(k:dx s b g+n<=200)(u:s.si.z g+n<=1048576):au p (li s b g n):=by
 have f:=r.fm;have e:b<s.on.n:=by rw[f.sh.n];exact l
 have hc:=(lj (s:=s) (b:=b) (g:=g) f.moveN).1;have hs:tr p (li s b g n).on:=by
  refine⟨f.sh.pl,f.sh.n,λi hi=>by rw[Zi];exact f.sh.len i hi,λi hi j c => ?_⟩;have:=f.sh.num i hi j c;rw[Fo];by_cases d:i=b/\j=g
  .obtain⟨rfl,rfl⟩:=d;rw[if_pos ⟨rfl,rfl⟩];unfold dx at k;omega
  rw[if_neg d];omega
 refine⟨⟨hs,vw (ts f.sh0).1 hs,f.os4,f.ms8,f.lns,f.kind,f.line,f.hold,f.home,f.move,f.sin,f.son,f.sfn,λj c => ?_,f.sob,f.sfb⟩,λj c => ?_,r.orders⟩
 .have:=f.sib j c;rw[S5];by_cases a:j=g
  .subst a;rw[if_pos rfl];omega
  rw[if_neg a];omega
 obtain⟨a1,o⟩:=kq (r.goods j c);refine rt ?_ λi hi => ?_
 .show cv (λi=>((li s b g n).on.r i).z j) s.on.n=(li s b g n).si.z j-s.so.z j+s.sf.z j;rw[S5];by_cases a:j=g
  .subst a;rw[Bn (z:=λi=>(s.on.r i).z j) (m:=b) (n:=n) e λi hi=>by
    show((li s b j n).on.r i).z j=_;rw[Fo];by_cases h:i=b<;>simp[h],if_pos rfl,a1]
   omega
  rw[rb (z':=λi=>(s.on.r i).z j) λi hi=>by
   show((li s b g n).on.r i).z j=_;rw[Fo];simp[a],if_neg a,a1]
  omega
 rw[Ub];have:=o i hi
 split<;>omega
end
section
variable {p:Pl} {s:St} {l:Hs}
theorem zg(hi:i<s.os.n):(kj s l).os.z i=s.os.z i:=by
 show(if i=s.os.n then(⟨0,l⟩:Od) else s.os.z i)=_;rw[if_neg (by omega)]
theorem Di:(kj s l).os.z s.os.n=⟨0,l⟩:=by
 show(if s.os.n=s.os.n then(⟨0,l⟩:Od) else s.os.z s.os.n)=_;rw[if_pos rfl]
theorem Li{z:Nat->Hd}{o l:Int}:∀{n:Nat},(∀j,j<n->¬(z j).o=o)->keptS z o l n=0
 | 0,_=>rfl
 | n+1,h=>by
  simp only[keptS];rw[Li (n:=n) λj a=>h j (by omega),if_neg λe=>h n (by omega) e.1]
  rfl
theorem R5(h:gp p s l=0):au p (kj s l):=by
 obtain⟨H,G,F,K,J,y⟩:=Jp h;have r:=ew H;have f:=r.fm;have os4:=f.os4;have ln:∀j,j<l.n->((0<=(l.z j).o/\(l.z j).o<p.ns)/\1<=(l.z j).l/\(l.z j).l<=200)/\(l.z j).b=0/\(l.z j).n=0:=λj c=>by
  have a:=dj J j c;have b:=dj y j c;simp only[tg,o6,Xxq,Bool.not_eq_false',bne_eq_false_iff_eq] at a b;have a1:=aq a.1;have d:=aq a.2;exact⟨⟨by omega,d⟩,b⟩
 have D:∀j,j<l.n->jx p (l.z j)=false:=λj c=>by
  obtain⟨⟨a1,d⟩,m,u⟩:=ln j c;unfold jx;rw[bq (by omega),bq (by omega),bq (by omega),bq (by omega)]
  rfl
 have v:∀j,j<s.hs.n->jo (kj s l) (s.hs.z j)=jo s (s.hs.z j):=λj c=>by
  have:=(iu (f.home j c)).1;unfold jo;rw[zg this.2]
 have t:∀b g,ar (kj s l) b g=ar s b g:=λb g=>by
  unfold ar;have A:ca (kj s l) b g (kj s l).hs.n=ca s b g s.hs.n:=ri (λ_ _=>rfl) v;have x:az (kj s l) b g (kj s l).ms.n=az s b g s.ms.n:=ow (λ_ _=>rfl);rw[A,x]
  rfl
 have k:∀i,i<(kj s l).os.n->i<s.os.n\/i=s.os.n:=λi hi=>by
  have:i<s.os.n+1:=hi;omega
 refine⟨⟨f.sh,f.sh0,by show s.os.n+1<=4;omega,f.ms8,λi hi => ?_,λi hi => ?_,λi hi j c => ?_,f.hold,λi hi => ?_,f.move,f.sin,f.son,f.sfn,f.sib,f.sob,f.sfb⟩,λg B => ?_,λi hi => ?_⟩
 .rcases k i hi with h|rfl
  .rw[zg h];exact f.lns i h
  rw[Di];exact⟨G,F⟩
 .rcases k i hi with h|rfl
  .rw[zg h];exact f.kind i h
  rw[Di];show(0:Int)<=0/\(0:Int)<=2;omega
 .rcases k i hi with h|rfl
  .rw[zg h] at c ⊢;exact f.line i h j c
  rw[Di] at c ⊢;exact D j c
 .obtain⟨a1,d,m⟩:=iu (f.home i hi);refine pe (s:=kj s l) ⟨a1.1,?_⟩ ⟨d.1,?_⟩ m
  .show _<s.os.n+1;have:=a1.2;show(s.hs.z i).o.toNat<s.os.n+1;omega
  show(s.hs.z i).l.toNat<((kj s l).os.z (s.hs.z i).o.toNat).ls.n;rw[zg a1.2];exact d.2
 .obtain⟨a1,d⟩:=kq (r.goods g B);exact rt a1 λb E=>by rw[t];exact d b E
 rcases k i hi with h|rfl
 .have:=r.orders i h;unfold cg at this ⊢;rw[zg h];exact this
 unfold cg;rw[Di];show(((0:Int)==1 && !aw l.n (λj=>js (l.z j)))||aw l.n (λj=>cp 0 (l.z j) (keptS s.hs.z s.os.n j s.hs.n)))=false;rw[Xxq];refine⟨by simp,cu λj c => ?_⟩;obtain⟨-,m,u⟩:=ln j c;rw[Li λq w e=>by have:=(iu (f.home q w)).1;omega];unfold cp;rw[if_pos rfl,m,u]
 rfl
end
theorem ru{z:Nat->Int}{n:Int}{k:Nat}(a:m<k)(h:∀i,i<k->z' i=z i+if i=m then n else 0):cv z' k=cv z k+n :=
 Bn a λi hi=>by rw[h i hi];by_cases e:i=m<;>simp[e]
theorem sy{z:Nat->Int}{k:Nat}(h:∀i,i<k->z' i=z i):cv z' k=cv z k:=rb h
def ko(x:St)(b g:Int)(k:Nat)(o l:Nat):Int:=if ((x.os.z o).ls.z l).o=g then keptV k x.hs.z o l b else 0
def Ak(x:St)(b g:Int)(k:Nat):Int:=cv (λo=>cv (λl=>ko x b g k o l) (x.os.z o).ls.n) x.os.n
theorem sk{p:Pl}{x:St}(b g:Int):∀k,(∀j,j<k->i7 p x (x.hs.z j)=false)->aw k (da x.hs.z)=false->ca x b g k=Ak x b g k
 | 0,_,_=>by
  unfold Ak;rw[um λo _=>um λl _=>by unfold ko keptV;simp]
  rfl
 | k+1,h,hr=>by
  simp only[ca];rw[sk b g k (λj B=>h j (by omega)) (Gp hr)];obtain⟨t,w,y⟩:=iu (h k (by omega));have key:∀o l,ko x b g (k+1) o l=ko x b g k o l+if o=(x.hs.z k).o.toNat/\l=(x.hs.z k).l.toNat then(if (x.hs.z k).b=b/\jo x (x.hs.z k)=g then(x.hs.z k).n else 0) else 0:=λo l=>by
   unfold ko;rw[F5 hr];by_cases f:o=(x.hs.z k).o.toNat/\l=(x.hs.z k).l.toNat;rotate_left
   .rw[if_neg f];have:bj (x.hs.z k) o l b=false:=by
     cases c:bj (x.hs.z k) o l b
     .rfl
     have:=fi c;exact absurd ⟨by omega,by omega⟩ f
    rw[this];simp
   rw[if_pos f];obtain⟨rfl,rfl⟩:=f;have u:(((x.hs.z k).o.toNat:Nat):Int)=(x.hs.z k).o:=by omega
   have s:(((x.hs.z k).l.toNat:Nat):Int)=(x.hs.z k).l:=by omega
   rw[u,s];by_cases m:jo x (x.hs.z k)=g
   .have a:((x.os.z (x.hs.z k).o.toNat).ls.z (x.hs.z k).l.toNat).o=g:=m;rw[if_pos a,if_pos a];by_cases q:(x.hs.z k).b=b
    .have c:bj (x.hs.z k) (x.hs.z k).o (x.hs.z k).l b=true:=by rw[<-q];exact uv _
     have r:(if (x.hs.z k).b=b/\jo x (x.hs.z k)=g then(x.hs.z k).n else 0)=(x.hs.z k).n:=if_pos ⟨q,m⟩;rw[c,r,if_pos rfl]
    have c:bj (x.hs.z k) (x.hs.z k).o (x.hs.z k).l b=false:=by
     cases c:bj (x.hs.z k) (x.hs.z k).o (x.hs.z k).l b
     .rfl
     exact absurd (fi c).2.2 q
    have r:(if (x.hs.z k).b=b/\jo x (x.hs.z k)=g then(x.hs.z k).n else 0)=0:=if_neg (λe=>q e.1);rw[c,r];simp
   have a:¬((x.os.z (x.hs.z k).o.toNat).ls.z (x.hs.z k).l.toNat).o=g:=m;rw[if_neg a,if_neg a,if_neg (λe=>m e.2)]
   rfl
  unfold Ak;refine(ru t.2 λo A => ?_).symm;by_cases i:o=(x.hs.z k).o.toNat
  .rw[if_pos i];subst i;exact ru w.2 λl v=>by
    rw[key];by_cases d:l=(x.hs.z k).l.toNat
    .rw[if_pos ⟨rfl,d⟩,if_pos d]
    rw[if_neg (λe=>d e.2),if_neg d]
  rw[if_neg i,Int.add_zero];exact sy λl v=>by rw[key,if_neg (λe=>i e.1)];omega
def i5(x:Hd)(n:Int):Hd:=⟨x.o,x.l,x.b,x.n-n⟩
structure ep(s:St)(o l:Nat)(n:Int)(t:Tk)(x:St):Prop where
 on:x.on.n=s.on.n/\∀i,i<x.on.n->(x.on.r i).n=(s.on.r i).n/\∀j,j<(x.on.r i).n->(x.on.r i).z j=(s.on.r i).z j
 os:x.os.n=s.os.n/\∀i,i<x.os.n->(x.os.z i).k=(s.os.z i).k/\(x.os.z i).ls.n=(s.os.z i).ls.n/\∀j,j<(x.os.z i).ls.n->(x.os.z i).ls.z j=if i=o/\j=l then i5 ((s.os.z i).ls.z j) (n-t.left) else(s.os.z i).ls.z j
 right:aw x.hs.n (da x.hs.z)=false
 kept:∀a b c:Int,keptV x.hs.n x.hs.z a b c=keptV s.hs.n s.hs.z a b c+if a=o/\b=l then t.took c else 0
 ms:x.ms.n=s.ms.n/\∀j,j<x.ms.n->x.ms.z j=s.ms.z j
 si:x.si.n=s.si.n/\∀j,j<x.si.n->x.si.z j=s.si.z j
 so:x.so.n=s.so.n/\∀j,j<x.so.n->x.so.z j=s.so.z j
 sf:x.sf.n=s.sf.n/\∀j,j<x.sf.n->x.sf.z j=s.sf.z j
theorem ep.same{n:Int}{t:Tk}(h:ep s o l n t x)(k:ep s o l n t y):ae x y:=by
 have e:∀i,i<x.os.n->i<y.os.n:=λi hi=>by rw[k.os.1,<-h.os.1];exact hi
 refine⟨⟨h.on.1.trans k.on.1.symm,λi hi => ?_⟩,⟨h.os.1.trans k.os.1.symm,λi hi => ?_⟩,Wa h.right k.right λa b c=>(h.kept a b c).trans (k.kept a b c).symm,⟨h.ms.1.trans k.ms.1.symm,λj d=>(h.ms.2 j d).trans (k.ms.2 j (by rw[k.ms.1,<-h.ms.1];exact d)).symm⟩,⟨h.si.1.trans k.si.1.symm,λj d=>(h.si.2 j d).trans (k.si.2 j (by rw[k.si.1,<-h.si.1];exact d)).symm⟩,⟨h.so.1.trans k.so.1.symm,λj d=>(h.so.2 j d).trans (k.so.2 j (by rw[k.so.1,<-h.so.1];exact d)).symm⟩,⟨h.sf.1.trans k.sf.1.symm,λj d=>(h.sf.2 j d).trans (k.sf.2 j (by rw[k.sf.1,<-h.sf.1];exact d)).symm⟩⟩
 .have a:=h.on.2 i hi;have b:=k.on.2 i (by rw[k.on.1,<-h.on.1];exact hi);exact⟨a.1.trans b.1.symm,λj d=>(a.2 j d).trans (b.2 j (by rw[b.1,<-a.1];exact d)).symm⟩
 have a:=h.os.2 i hi;have b:=k.os.2 i (e i hi);exact⟨a.1.trans b.1.symm,a.2.1.trans b.2.1.symm,λj d=>(a.2.2 j d).trans (b.2.2 j (by rw[b.2.1,<-a.2.1];exact d)).symm⟩
section
variable {p:Pl} {s x:St} {o l:Nat} {n:Int} {t:Tk}
theorem ep.line(h:ep s o l n t x)(hi:i<s.os.n)(b:j<(s.os.z i).ls.n):(x.os.z i).ls.z j=if i=o/\j=l then i5 ((s.os.z i).ls.z j) (n-t.left) else(s.os.z i).ls.z j:=by
 have a:=h.os.2 i (by rw[h.os.1];exact hi);exact a.2.2 j (by rw[a.2.1];exact b)
theorem ep.good(h:ep s o l n t x)(hi:i<s.os.n)(a:j<(s.os.z i).ls.n):((x.os.z i).ls.z j).o=((s.os.z i).ls.z j).o:=by
 rw[h.line hi a]
 split<;>rfl
theorem ep.keptS(h:ep s o l n t x)(f:cw p s)(e:cv (λb=>t.took b) 6=n-t.left)(a b:Int):Go.Proofs.YtbcacebifpagpafGreat.keptS x.hs.z a b x.hs.n=Go.Proofs.YtbcacebifpagpafGreat.keptS s.hs.z a b s.hs.n+if a=o/\b=l then n-t.left else 0:=by
 rw[<-xh x.hs.z a b _ h.right,<-xh s.hs.z a b _ f.hold];by_cases d:a=o/\b=l
 .rw[if_pos d,<-e];have:∀m,cv (λc=>keptV x.hs.n x.hs.z a b c) m=cv (λc=>keptV s.hs.n s.hs.z a b c) m+cv (λc=>t.took c) m:=λm=>by
   induction m with
   | zero=>rfl
   | succ m ih=>simp only[cv];rw[ih,h.kept,if_pos d];omega
  exact this 6
 rw[if_neg d,Int.add_zero];exact sy λc _=>by rw[h.kept,if_neg d];omega
theorem ep.home(h:ep s o l n t x)(f:cw p s)(D:o<s.os.n)(w:l<(s.os.z o).ls.n)(m:∀b,¬t.took b=0->0<=b/\b<p.nb):∀i,i<x.hs.n->i7 p x (x.hs.z i)=false:=by
 intro i hi;have fx:=cy (bw h.right i hi);have e:=(nl h.right hi (uv (x.hs.z i))).1;rw[h.kept] at e;have c:∀a,a<s.os.n->(x.os.z a).ls.n=(s.os.z a).ls.n:=λa B=>(h.os.2 a (by rw[h.os.1];exact B)).2.1;by_cases g:keptV s.hs.n s.hs.z (x.hs.z i).o (x.hs.z i).l (x.hs.z i).b=0
 .by_cases d:(x.hs.z i).o=o/\(x.hs.z i).l=l
  .rw[if_pos d,g] at e;have y:=m (x.hs.z i).b (by omega);have A:(x.hs.z i).o.toNat=o:=by omega
   have u:(x.hs.z i).l.toNat=l:=by omega
   refine pe ⟨by omega,by rw[h.os.1];omega⟩ ⟨by omega,?_⟩ y;rw[A,u,c o D];exact w
  rw[if_neg d,g] at e;omega
 obtain⟨F,E,-⟩:=rm f.hold g;obtain⟨a1,j,q⟩:=iu (f.home _ F);obtain⟨k,v,r⟩:=fi E;rw[k,v] at j;rw[k] at a1;rw[r] at q;exact pe ⟨a1.1,by rw[h.os.1];exact a1.2⟩ ⟨j.1,by rw[c _ a1.2];exact j.2⟩ q
theorem ep.num(h:ep s o l n t x)(f:cw p s)(d:b<p.nb)(c:g<p.ns):(x.on.r b).z g=(s.on.r b).z g:=by
 have a:b<s.on.n:=by rw[f.sh.n];exact d
 have r:=h.on.2 b (by rw[h.on.1];exact a);exact r.2 g (by rw[r.1,f.sh.len b a];exact c)
theorem ep.formed(h:ep s o l n t x)(f:cw p s)(r:o<s.os.n)(q:l<(s.os.z o).ls.n)(k:∀b,¬t.took b=0->0<=b/\b<p.nb)(v:0<=n-t.left)(u:n-t.left<=((s.os.z o).ls.z l).n):cw p x:=by
 have m:=(ts f.sh0).1;have hs:tr p x.on:=⟨f.sh.pl,h.on.1.trans f.sh.n,λi hi=>(h.on.2 i hi).1.trans (f.sh.len i (by rw[<-h.on.1];exact hi)),λi hi j a=>by
  have g:i<s.on.n:=by rw[<-h.on.1];exact hi
  rw[h.num f (by rw[<-f.sh.n];exact g) a];exact f.sh.num i g j a⟩
 have d:∀i,i<x.os.n->i<s.os.n:=λi hi=>by rw[<-h.os.1];exact hi
 refine⟨hs,vw m hs,by rw[h.os.1];exact f.os4,by rw[h.ms.1];exact f.ms8,λi hi=>by rw[(h.os.2 i hi).2.1];exact f.lns i (d i hi),λi hi=>by rw[(h.os.2 i hi).1];exact f.kind i (d i hi),λi hi j a => ?_,h.right,h.home f r q k,λi hi => ?_,h.si.1.trans f.sin,h.so.1.trans f.son,h.sf.1.trans f.sfn,λj a => ?_,λj a => ?_,λj a => ?_⟩
 .have e:j<(s.os.z i).ls.n:=by rw[<-(h.os.2 i hi).2.1];exact a
  rw[(h.os.2 i hi).2.2 j a];by_cases c:i=o/\j=l
  .rw[if_pos c];obtain⟨rfl,rfl⟩:=c;obtain⟨b1,b2,b3,b4⟩:=dz (f.line i (d i hi) j e);unfold jx i5;rw[bq (by show _/\_;dsimp only;omega),bq (by show _/\_;dsimp only;omega),bq (by show _/\_;dsimp only;omega),bq (by show _/\_;dsimp only;omega)]
   rfl
  rw[if_neg c];exact f.line i (d i hi) j e
 .rw[h.ms.2 i hi];exact f.move i (by rw[<-h.ms.1];exact hi)
 .rw[h.si.2 j (by rw[h.si.1,f.sin];exact a)];exact f.sib j a
 .rw[h.so.2 j (by rw[h.so.1,f.son];exact a)];exact f.sob j a
 rw[h.sf.2 j (by rw[h.sf.1,f.sfn];exact a)];exact f.sfb j a
theorem ep.held(h:ep s o l n t x)(f:cw p s)(fx:cw p x)(v:o<s.os.n)(w:l<(s.os.z o).ls.n)(b g:Int):ca x b g x.hs.n=ca s b g s.hs.n+if ((s.os.z o).ls.z l).o=g then t.took b else 0:=by
 rw[sk b g _ fx.home fx.hold,sk b g _ f.home f.hold];have q:∀a,a<s.os.n->(x.os.z a).ls.n=(s.os.z a).ls.n:=λa y=>(h.os.2 a (by rw[h.os.1];exact y)).2.1;have key:∀i,i<s.os.n->∀j,j<(s.os.z i).ls.n->ko x b g x.hs.n i j=ko s b g s.hs.n i j+if i=o/\j=l then(if ((s.os.z o).ls.z l).o=g then t.took b else 0) else 0:=λi hi j k=>by
  unfold ko;rw[h.good hi k,h.kept];by_cases m:i=o/\j=l
  .have r:(if ((i:Nat):Int)=o/\((j:Nat):Int)=l then t.took b else 0)=t.took b:=if_pos (by omega);rw[r,if_pos m];obtain⟨rfl,rfl⟩:=m;by_cases u:((s.os.z i).ls.z j).o=g<;>simp[u]
  have r:(if ((i:Nat):Int)=o/\((j:Nat):Int)=l then t.took b else 0)=0:=if_neg (by omega);rw[r,if_neg m];by_cases u:((s.os.z i).ls.z j).o=g<;>simp[u]
 unfold Ak;rw[h.os.1];refine ru v λi hi => ?_;rw[q i hi];by_cases d:i=o
 .subst d;rw[if_pos rfl];exact ru w λj k=>by
   rw[key i hi j k];by_cases c:j=l
   .rw[if_pos ⟨rfl,c⟩,if_pos c]
   rw[if_neg (λe=>c e.2),if_neg c]
 rw[if_neg d,Int.add_zero];exact sy λj k=>by rw[key i hi j k,if_neg (λe=>d e.1),Int.add_zero]
theorem ep.avail(h:ep s o l n t x)(f:cw p s)(fx:cw p x)(e:o<s.os.n)(c:l<(s.os.z o).ls.n)(d:b<p.nb)(a:g<p.ns):ar x b g=ar s b g-if ((s.os.z o).ls.z l).o=g then t.took b else 0:=by
 unfold ar;rw[h.num f d a,h.held f fx e c,h.ms.1,ow λj i=>h.ms.2 j (by rw[h.ms.1];exact i)];omega
theorem ep.isRight(h:ep s o l n t x)(r:au p s)(B:o<s.os.n)(E:l<(s.os.z o).ls.n)(G:(s.os.z o).k=1)(D:∀b,¬t.took b=0->0<=b/\b<p.nb)(L:0<=n-t.left)(J:n-t.left<=((s.os.z o).ls.z l).n)
  (A:∀b:Nat,b<p.nb->t.took b<=ar s b ((s.os.z o).ls.z l).o.toNat) (P:∀b,0<=t.took b) (v:cv (λb=>t.took b) 6=n-t.left):au p x:=by
 have f:=r.fm;have fx:=h.formed f B E D L J;refine⟨fx,λg d => ?_,λi hi => ?_⟩
 .obtain⟨a1,M⟩:=kq (r.goods g d);refine rt ?_ λb y => ?_
  .have e:cv (λi=>(x.on.r i).z g) x.on.n=cv (λi=>(s.on.r i).z g) s.on.n:=by
    rw[h.on.1];exact rb λi hi=>h.num f (by rw[<-f.sh.n];exact hi) d
   rw[e,a1,h.si.2 g (by rw[h.si.1,f.sin];exact d),h.so.2 g (by rw[h.so.1,f.son];exact d),h.sf.2 g (by rw[h.sf.1,f.sfn];exact d)]
  rw[h.avail f fx B E y d];have Q:=M b y;by_cases m:((s.os.z o).ls.z l).o=g
  .rw[if_pos m];have:=A b y;rw[m] at this;have e:((g:Nat):Int).toNat=g:=rfl;rw[e] at this;omega
  rw[if_neg m];omega
 have u:i<s.os.n:=by rw[<-h.os.1];exact hi
 have w:=r.orders i u;obtain⟨K,H,S⟩:=h.os.2 i hi;have F:=λj c=>h.line (i:=i) (j:=j) u c;unfold cg at w ⊢;rw[Xxq] at w ⊢;rw[K,H];refine⟨?_,cu λj c => ?_⟩
 .rw[<-w.1]
  congr 2
  refine nz λj c => ?_;rw[F j c]
  split<;>rfl
 have a:=dj w.2 j c;rw[h.keptS f v,F j c];by_cases q:i=o/\j=l
 .obtain⟨rfl,rfl⟩:=q;rw[if_pos ⟨rfl,rfl⟩,if_pos ⟨rfl,rfl⟩];rw[G] at a ⊢;unfold cp at a ⊢;simp only[i5] at a ⊢;rw[if_neg (by decide),if_neg (by decide)] at a ⊢;simp only[Bool.not_eq_false',beq_iff_eq] at a ⊢;omega
 rw[if_neg q,if_neg (λe=>q ⟨by omega,by omega⟩),Int.add_zero];exact a
end
def xc(s:St)(order line:Int):Bool := !(inB order 0 ((s.os.n:Int)-1)) || !(inB line 0 (((s.os.z order.toNat).ls.n:Int)-1))
def qh(p:Pl)(s:St)(order line n but:Int):Bool:=xc s order line || !(inB n 0 200)||((but !=-1) && !(inB but 0 ((p.nb:Int)-1)))
def fj(s:St)(order line:Int):Hd:=(s.os.z order.toNat).ls.z line.toNat
def fa(p:Pl)(s:St)(order line n but:Int):Int :=
 if ah p s=0 then(if qh p s order line n but then 3 else if (s.os.z order.toNat).k=1 then(if (fj s order line).n<n then 3 else 0) else 6) else ah p s
def M7(p:Pl)(s:St)(good:Int)(n but:Int):Tk:=Tk.go (λb=>ar s b.toNat good.toNat) n (fc p but)
def Bm(p:Pl)(s:St)(order line n but:Int):Int:=if fa p s order line n but=0 then(M7 p s (fj s order line).o n but).left else 0
def zo(p:Pl)(s:St)(order line n but:Int)(x:St):Prop:=(fa p s order line n but=0->ep s order.toNat line.toNat n (M7 p s (fj s order line).o n but) x)/\(¬fa p s order line n but=0->Dj x)
section
variable {p:Pl} {s:St} {order line n but:Int}
theorem H6(h:¬ah p s=0):fa p s order line n but=ah p s:=by unfold fa;rw[if_neg h]
theorem z4(h:ah p s=0)(a:qh p s order line n but=true):fa p s order line n but=3:=by unfold fa;rw[if_pos h,if_pos a]
theorem Ei(h:ah p s=0)(b:qh p s order line n but=false)(a:¬(s.os.z order.toNat).k=1):fa p s order line n but=6:=by unfold fa;rw[if_pos h,b,if_neg a];rfl
theorem Eb(h:ah p s=0)(c:qh p s order line n but=false)(b:(s.os.z order.toNat).k=1)(a:(fj s order line).n<n):fa p s order line n but=3:=by unfold fa;rw[if_pos h,c,if_pos b,if_pos a];rfl
theorem Hw(h:ah p s=0)(c:qh p s order line n but=false)(b:(s.os.z order.toNat).k=1)(a:¬(fj s order line).n<n):fa p s order line n but=0:=by unfold fa;rw[if_pos h,c,if_pos b,if_neg a];rfl
theorem Hg(h:qh p s order line n but=false):(0<=order/\order.toNat<s.os.n)/\(0<=line/\line.toNat<(s.os.z order.toNat).ls.n)/\(0<=n/\n<=200)/\(but = -1\/0<=but/\but<p.nb):=by
 simp only[qh,xc,Xxq,Bool.not_eq_false',Bool.and_eq_false_iff,bne_eq_false_iff_eq] at h;obtain⟨⟨⟨a,b⟩,c⟩,d⟩:=h;have a:=aq a;have b:=aq b;have c:=aq c;refine⟨by omega,by omega,c,?_⟩;rcases d with d|d
 .exact Or.inl d
 have:=aq d;exact Or.inr (by omega)
structure np(p:Pl)(s:St)(order line n but:Int):Prop where
 st:ah p s=0
 o0:0<=order
 on:order.toNat<s.os.n
 l0:0<=line
 ln:line.toNat<(s.os.z order.toNat).ls.n
 n0:0<=n
 n2:n<=200
 bt:but = -1\/0<=but/\but<p.nb
 kd:(s.os.z order.toNat).k=1
 bk:n<=(fj s order line).n
theorem allocIn(h:fa p s order line n but=0):np p s order line n but:=by
 by_cases e:ah p s=0
 .cases f:qh p s order line n but
  .obtain⟨a,b,c,d⟩:=Hg f;by_cases g:(s.os.z order.toNat).k=1
   .by_cases i:(fj s order line).n<n
    .rw[Eb e f g i] at h;exact absurd h (by decide)
    exact⟨e,a.1,a.2,b.1,b.2,c.1,c.2,d,g,by omega⟩
   rw[Ei e f g] at h;exact absurd h (by decide)
  rw[z4 e f] at h;exact absurd h (by decide)
 rw[H6 e] at h;exact absurd h e
theorem np.good(h:np p s order line n but):0<=(fj s order line).o/\(fj s order line).o<p.ns:=(dz ((ew h.st).fm.line _ h.on _ h.ln)).1
theorem np.way(h:np p s order line n but):∀x,x∈fc p but->0<=x/\x<p.nb:=λx hx=>Fb (vv.1 hx).1
theorem np.tk(h:np p s order line n but){l:List Int}(c:l.Pairwise (λx y=>¬x=y))(a:∀x,x∈l->0<=x/\x<p.nb):Ac (λb=>ar s b.toNat (fj s order line).o.toNat) n l (Tk.go (λb=>ar s b.toNat (fj s order line).o.toNat) n l):=by
 have r:=ew h.st;have d:=h.good;refine abo h.n0 c (λx hx => ?_) (λx hx => ?_)
 .have:=a x hx;exact(kq (r.goods _ (by omega))).2 _ (by omega)
 have:=a x hx;have:=r.fm.sh.pl.nb6;omega
theorem ep.rightAt{l:List Int}{t:Tk}(h:np p s order line n but)(d:∀x,x∈l->0<=x/\x<p.nb)(k:Ac (λb=>ar s b.toNat (fj s order line).o.toNat) n l t)(T:ep s order.toNat line.toNat n t x):au p x:=by
 have r:=ew h.st;have c:=h.bk;have g:=k.left0;have f:=k.leftn;refine T.isRight r h.on h.ln h.kd (λb c => ?_) (by omega) (by unfold fj at c;omega) (λb c => ?_) k.took0 k.sum
 .apply Classical.byContradiction
  intro hc;refine c (k.other b λa=>hc ?_);exact d b a
 by_cases a:((b:Nat):Int)∈l
 .exact k.had b a
 rw[k.other b a];have e:=h.good;exact(kq (r.goods _ (by unfold fj at e;omega))).2 b c
end
def Fk(x:Hd)(c:Nat)(v:Int):Hd:=if c=0 then ⟨v,x.l,x.b,x.n⟩ else if c=1 then ⟨x.o,v,x.b,x.n⟩ else if c=2 then ⟨x.o,x.l,v,x.n⟩ else ⟨x.o,x.l,x.b,v⟩
def ym(h:Hs)(j c:Nat)(v:Int):Hs:=⟨h.a,h.n,h.c,λi=>if i=j then Fk (h.z i) c v else h.z i⟩
def Cg(os:Os)(o l c:Nat)(v:Int):Os:=⟨os.a,os.n,os.c,λi=>if i=o then ⟨(os.z i).k,ym (os.z i).ls l c v⟩ else os.z i⟩
def setLine(s:St)(o l c:Nat)(v:Int):St:=⟨s.on,Cg s.os o l c v,s.hs,s.ms,s.si,s.so,s.sf⟩
def withHolds(s:St)(h:Hs):St:=⟨s.on,s.os,h,s.ms,s.si,s.so,s.sf⟩
theorem p9{c:Nat}(hi:i<n)(hc:c<4):(ax n z).getD (i*4+c) default=(df (z i)).getD c default:=by
 simp only[List.getD,vq n z i c hi hc]
theorem Mk{h:Hs}{c:Nat}{v:Int}(hc:c<4)(q:Nat)(k:q<h.n*4):
  (if q=j*4+c then Value.int .i64 v else(ax h.n h.z).getD q default)=(ax h.n (ym h j c v).z).getD q default:=by
 have hd:q=q/4*4+q%4:=by omega
 have hi:q/4<h.n:=by omega
 have a:q%4<4:=by omega
 have f:=p9 (z:=h.z) hi a;have g:=p9 (z:=(ym h j c v).z) hi a;rw[<-hd] at f g;rw[f,g];show _=(df (if q/4=j then Fk (h.z (q/4)) c v else h.z (q/4))).getD (q%4) default;by_cases e:q/4=j
 .rw[if_pos e];by_cases d:q=j*4+c
  .rw[if_pos d];have:q%4=c:=by omega
   rw[this];have b:c=0\/c=1\/c=2\/c=3:=by omega
   rcases b with rfl|rfl|rfl|rfl<;>rfl
  rw[if_neg d];have b:c=0\/c=1\/c=2\/c=3:=by omega
  have i:q%4=0\/q%4=1\/q%4=2\/q%4=3:=by omega
  rcases b with rfl|rfl|rfl|rfl<;>rcases i with a|a|a|a<;>first|(exfalso;omega)|(rw[a];rfl)
 rw[if_neg e,if_neg (by omega)]
theorem j7.setLine{s:Os}{B:Nat}(h:j7 A w s)(y:o<s.n)(p:(s.z o).ls.a=some ⟨B,0,none⟩)(l c:Nat)(hc:c<4)(v:Int):j7 A (w.setCell ⟨B,l*4+c,none⟩ (.int .i64 v)) (Cg s o l c v):=by
 obtain⟨B',f,M,P,S,F⟩:=h.lines o y;rw[p] at f;simp only[Qkx,Qkz,and_true] at f;subst f;have t:∀i,(Cg s o l c v).z i=if i=o then ⟨(s.z i).k,ym (s.z i).ls l c v⟩ else s.z i:=λ_=>rfl;have d:∀i,p8 ((Cg s o l c v).z i)=p8 (s.z i):=λi=>by
  rw[t];by_cases b:i=o
  .rw[if_pos b];rfl
  rw[if_neg b]
 have r:∀i,((Cg s o l c v).z i).ls.a=(s.z i).ls.a:=λi=>by
  rw[t];by_cases b:i=o
  .rw[if_pos b];rfl
  rw[if_neg b]
 refine⟨h.le,h.cap,λQ => ?_,λi hi => ?_,λi j E D=>by rw[r,r];exact h.apart i j E D,h.room.set _ _ _⟩
 .obtain⟨g,a1,u,m⟩:=h.list Q;refine⟨g,a1,u,(m.other (a:=⟨B,l*4+c,none⟩) (Blk.ne2 m F (by decide)) _).congr λj D => ?_⟩;show _=(jn s.n (Cg s o l c v).z).getD j default;rw[yh λi _=>d i]
 rw[t];by_cases b:i=o
 .subst b;rw[if_pos rfl];exact⟨B,p,M,P,S,(F.set (l*4+c) (.int .i64 v)).congr λq K=>Mk hc q K⟩
 rw[if_neg b];obtain⟨C,a1,u,m,J,L⟩:=h.lines i hi;refine⟨C,a1,u,m,J,L.other (a:=⟨B,l*4+c,none⟩) (λe => ?_) _⟩;have H:C=B:=e;subst H;rcases Nat.lt_or_gt_of_ne b with x|G
 .exact h.apart i o x y (a1.trans p.symm)
 exact h.apart o i G hi (p.trans a1.symm)
theorem ai.setLine{B:Nat}(h:ai A w s)(j:o<s.os.n)(f:(s.os.z o).ls.a=some ⟨B,0,none⟩)(l c:Nat)(hc:c<4)(v:Int):ai A (w.setCell ⟨B,l*4+c,none⟩ (.int .i64 v)) (Go.Proofs.YtbcacebifpagpafGreat.setLine s o l c v):=by
 obtain⟨B',d,-,-,-,b⟩:=h.os.lines o j;rw[f] at d;simp only[Qkx,Qkz,and_true] at d;subst d;refine⟨?_,λi hi=>(h.rows i hi).other b (by decide) _ _,h.rapart,h.os.setLine j f l c hc v,h.hs.other b (by decide) _ _,h.ms.other b (by decide) _ _,h.msr.set _ _ _,h.si.other b (by decide) _ _,h.so.other b (by decide) _ _,h.sf.other b (by decide) _ _,h.aio,h.aif,h.aof,h.ari⟩;obtain⟨g,m,a1,p,k,e⟩:=h.on;exact⟨g,m,a1,p,k,e.other (a:=⟨B,l*4+c,none⟩) (Blk.ne2 e b (by decide)) _⟩
theorem ai.withHolds{h:Hs}(k:ai A w s)(a:cz A 103 w h):ai A w (Go.Proofs.YtbcacebifpagpafGreat.withHolds s h):=
 ⟨k.on,k.rows,k.rapart,k.os,a,k.ms,k.msr,k.si,k.so,k.sf,k.aio,k.aif,k.aof,k.ari⟩
theorem ai.lineCell(h:ai A w s)(f:o<s.os.n)(p:l<(s.os.z o).ls.n):∃g B,s.os.a=some ⟨g,0,none⟩/\A<=g/\g<w.heap.size/\w.cell? ⟨g,o*2+1,none⟩=some (.slice (some ⟨B,0,none⟩) (s.os.z o).ls.n (s.os.z o).ls.c)/\(s.os.z o).ls.a=some ⟨B,0,none⟩/\A<=B/\B<w.heap.size/\(s.os.z o).ls.n<=(s.os.z o).ls.c/\(s.os.z o).ls.c<=maxLen/\(∀j,w.frozen? ⟨B,j,none⟩=false) /\
  w.cell? ⟨B,l*4,none⟩=some (.int .i64 ((s.os.z o).ls.z l).o)/\w.cell? ⟨B,l*4+1,none⟩=some (.int .i64 ((s.os.z o).ls.z l).l)/\w.cell? ⟨B,l*4+2,none⟩=some (.int .i64 ((s.os.z o).ls.z l).b)/\w.cell? ⟨B,l*4+3,none⟩=some (.int .i64 ((s.os.z o).ls.z l).n):=by
 obtain⟨g,k,m,i⟩:=h.os.list (by omega);obtain⟨B,b1,b2,b3,b4,b5⟩:=h.os.lines o f;have e:=i.cell (j:=o*2+1) (by omega);rw[qc (z:=s.os.z) f (show 1<2 by decide)] at e;have c1:w.cell? ⟨g,o*2+1,none⟩=some (.slice (s.os.z o).ls.a (s.os.z o).ls.n (s.os.z o).ls.c):=e;rw[b1] at c1;have d:∀c,c<4->w.cell? ⟨B,l*4+c,none⟩=some ((df ((s.os.z o).ls.z l)).getD c default):=λc hc=>by
  rw[<-p9 (z:=(s.os.z o).ls.z) p hc];exact b5.cell (by omega)
 exact⟨g,B,k,m,i.lt,c1,b1,b2,b5.lt,b3,b4,λj=>b5.frozen j,d 0 (by decide),d 1 (by decide),d 2 (by decide),d 3 (by decide)⟩
theorem oq{c:Nat}{v:Int}(i j:Nat):((Go.Proofs.YtbcacebifpagpafGreat.setLine s o l c v).os.z i).ls.z j=if i=o/\j=l then Fk ((s.os.z i).ls.z j) c v else(s.os.z i).ls.z j:=by
 show(if i=o then(⟨(s.os.z i).k,ym (s.os.z i).ls l c v⟩:Od) else s.os.z i).ls.z j=_;by_cases hi:i=o
 .rw[if_pos hi];show(if j=l then Fk ((s.os.z i).ls.z j) c v else(s.os.z i).ls.z j)=_;by_cases a:j=l
  .rw[if_pos a,if_pos ⟨hi,a⟩]
  rw[if_neg a,if_neg (λe=>a e.2)]
 rw[if_neg hi,if_neg (λe=>hi e.1)]
theorem qy{c:Nat}{v:Int}(i:Nat):((Go.Proofs.YtbcacebifpagpafGreat.setLine s o l c v).os.z i).k=(s.os.z i).k:=by
 show(if i=o then(⟨(s.os.z i).k,ym (s.os.z i).ls l c v⟩:Od) else s.os.z i).k=_;by_cases hi:i=o
 .rw[if_pos hi]
 rw[if_neg hi]
theorem dp{c:Nat}{v:Int}(i:Nat):((Go.Proofs.YtbcacebifpagpafGreat.setLine s o l c v).os.z i).ls.n=(s.os.z i).ls.n/\((Go.Proofs.YtbcacebifpagpafGreat.setLine s o l c v).os.z i).ls.a=(s.os.z i).ls.a/\((Go.Proofs.YtbcacebifpagpafGreat.setLine s o l c v).os.z i).ls.c=(s.os.z i).ls.c:=by
 show(if i=o then(⟨(s.os.z i).k,ym (s.os.z i).ls l c v⟩:Od) else s.os.z i).ls.n=_/\(if i=o then(⟨(s.os.z i).k,ym (s.os.z i).ls l c v⟩:Od) else s.os.z i).ls.a=_/\(if i=o then(⟨(s.os.z i).k,ym (s.os.z i).ls l c v⟩:Od) else s.os.z i).ls.c=_;by_cases hi:i=o
 .rw[if_pos hi];exact⟨rfl,rfl,rfl⟩
 rw[if_neg hi];exact⟨rfl,rfl,rfl⟩
theorem Gn{z:Nat->Int}{m:Nat}:∀{k:Nat},m<k->(∀i,i<k->0<=z i)->z m<=cv z k
 | k+1,hm,h=>by
  simp only[cv];have c:0<=cv z k:=by
   have:∀q,q<=k->0<=cv z q:=λq=>by
    induction q with
    | zero=>intro _;exact Int.le_refl _
    | succ q ih=>intro b;simp only[cv];have:=ih (by omega);have:=h q (by omega);omega
   exact this k nlr
  by_cases a:m=k
  .subst a;omega
  have:=Gn (z:=z) (m:=m) (k:=k) (by omega) (λi hi=>h i (by omega));have:=h k (by omega);omega
theorem M2(a:aw n (da z)=false)(o l:Int)(c:b<6):keptV n z o l b<=keptS z o l n:=by
 rw[<-xh z o l n a];exact Gn (z:=λb=>keptV n z o l b) c λi _=>(Cz (λj d=>(cy (bw a j d)).2.2.2) o l i).1
theorem Kh(r:au p x)(hi:i<x.os.n)(c:j<(x.os.z i).ls.n)(d:(x.os.z i).k=1):((x.os.z i).ls.z j).b+((x.os.z i).ls.z j).n+keptS x.hs.z i j x.hs.n=((x.os.z i).ls.z j).l/\((x.os.z i).ls.z j).l<=200/\0<=((x.os.z i).ls.z j).b:=by
 have w:=r.orders i hi;unfold cg at w;rw[Xxq] at w;have a:=dj w.2 j c;rw[d] at a;unfold cp at a;rw[if_neg (by decide),if_neg (by decide)] at a;simp only[Bool.not_eq_false',beq_iff_eq] at a;have b:=dz (r.fm.line i hi j c);exact⟨a,by omega,by omega⟩
theorem ep.congr{n:Int}{t d:Tk}(h:ep s o l n t x)(g:d.left=t.left)(e:∀c,d.took c=t.took c):ep s o l n d x :=
 ⟨h.on,⟨h.os.1,λi hi=>⟨(h.os.2 i hi).1,(h.os.2 i hi).2.1,λj f=>by rw[g];exact(h.os.2 i hi).2.2 j f⟩⟩,h.right,λa b c=>by rw[e];exact h.kept a b c,h.ms,h.si,h.so,h.sf⟩
theorem ep.stepZero{n:Int}{t:Tk}{av:Int->Int}{b:Int}(h:ep s o l n t x)(a:min t.left (av b)=0):ep s o l n (t.step av b) x :=
 h.congr (by show t.left-min t.left (av b)=t.left;omega) λc=>by
  show(t.took c+if c=b then min t.left (av b) else 0)=t.took c;rw[a]
  split<;>omega
def kc(o l:Nat)(b m:Int):Hd:=⟨o,l,b,m⟩
theorem ep.start{n:Int}(f:aw s.hs.n (da s.hs.z)=false)(hx:ae x s):ep s o l n ⟨n,λ_=>0⟩ x:=by
 refine⟨hx.on,⟨hx.os.1,λi hi=>⟨(hx.os.2 i hi).1,(hx.os.2 i hi).2.1,λj d => ?_⟩⟩,?_,λa b c => ?_,hx.ms,hx.si,hx.so,hx.sf⟩
 .rw[(hx.os.2 i hi).2.2 j d];by_cases e:i=o/\j=l
  .rw[if_pos e];show _=(⟨_,_,_,_-(n-n)⟩:Hd);rw[Int.sub_self,Int.sub_zero]
  rw[if_neg e]
 .rw[hx.hs.1,F1 λj d=>hx.hs.2 j (by rw[hx.hs.1];exact d)];exact f
 rw[hx.hs.1,yb λj d=>hx.hs.2 j (by rw[hx.hs.1];exact d)];show _=_+if _ then(0:Int) else 0
 split<;>omega
section
variable {p:Pl} {s x:St} {order line n but:Int} {l:List Int} {t:Tk} {b:Int}
theorem ep.addE(h:np p s order line n but)(g:∀x,x∈l->0<=x/\x<p.nb)(k:Ac (λb=>ar s b.toNat (fj s order line).o.toNat) n l t)(T:ep s order.toNat line.toNat n t x)(u:0<=b/\b<p.nb){m:Int}(D:0<m)(B:m<=t.left):
  Go.Proofs.YtbcacebifpagpafGreat.addE x.hs.n x.hs.z (kc order.toNat line.toNat b m)=0:=by
 have r:=T.rightAt h g k;have nb6:=r.fm.sh.pl.nb6;have c:order.toNat<x.os.n:=by rw[T.os.1];exact h.on
 have e:=T.os.2 order.toNat c;have f:line.toNat<(x.os.z order.toNat).ls.n:=by rw[e.2.1];exact h.ln
 obtain⟨a1,H,F⟩:=Kh r c f (by rw[e.1];exact h.kd);have d:=e.2.2 line.toNat f;rw[if_pos ⟨rfl,rfl⟩] at d;have G:((x.os.z order.toNat).ls.z line.toNat).n=(fj s order line).n-(n-t.left):=by rw[d];rfl
 have w:=h.bk;have y:=k.leftn;obtain⟨a,rfl⟩:=Qzz u.1;have A:=M2 T.right order.toNat line.toNat (b:=a) (by omega);have os4:=r.fm.os4;have E:=(r.fm.lns _ c).2;have i:gy (kc order.toNat line.toNat a m)=true:=by
  unfold gy kc;have v:=(ro (z:=x.hs.z) (order.toNat:Nat) (line.toNat:Nat) x.hs.n λj q=>(cy (bw T.right j q)).2.2.2).1;rw[bq (by dsimp only;omega),bq (by dsimp only;omega),bq (by dsimp only;omega),bq (by dsimp only;omega)]
  rfl
 rw[S7 T.right i,if_neg];show ¬200<keptV x.hs.n x.hs.z (order.toNat:Nat) (line.toNat:Nat) a+m;omega
theorem ep.stepAdd{y:Hs}{av:Int->Int}(T:ep s order.toNat line.toNat n t x)(F:order.toNat<s.os.n)(G:line.toNat<(s.os.z order.toNat).ls.n){m:Int}(p:min t.left (av b)=m)(A:Go.Proofs.YtbcacebifpagpafGreat.addE x.hs.n x.hs.z (kc order.toNat line.toNat b m)=0)(B:Dw x.hs.n x.hs.z (kc order.toNat line.toNat b m) y):
  ep s order.toNat line.toNat n (t.step av b) (withHolds (setLine x order.toNat line.toNat 3 (((x.os.z order.toNat).ls.z line.toNat).n-m)) y):=by
 obtain⟨D,w⟩:=B.right A;refine⟨T.on,⟨T.os.1,λi hi => ?_⟩,D,λa c d => ?_,T.ms,T.si,T.so,T.sf⟩
 .have r:i<x.os.n:=hi;have e:=T.os.2 i r;have u:=(dp (s:=x) (o:=order.toNat) (l:=line.toNat) (c:=3) (v:=((x.os.z order.toNat).ls.z line.toNat).n-m) i).1;refine⟨(qy i).trans e.1,u.trans e.2.1,λj E => ?_⟩;have h:j<(x.os.z i).ls.n:=by rw[<-u];exact E
  show((setLine x order.toNat line.toNat 3 (((x.os.z order.toNat).ls.z line.toNat).n-m)).os.z i).ls.z j=_;rw[oq,e.2.2 j h];by_cases f:i=order.toNat/\j=line.toNat
  .rw[if_pos f,if_pos f,if_pos f];obtain⟨rfl,rfl⟩:=f;have q:=e.2.2 line.toNat h;rw[if_pos ⟨rfl,rfl⟩] at q;rw[q];show(⟨_,_,_,_-(n-t.left)-m⟩:Hd)=⟨_,_,_,_-(n-(t.left-min t.left (av b)))⟩;rw[p]
   congr 1
   omega
  rw[if_neg f,if_neg f,if_neg f]
 show keptV y.n y.z a c d=_;rw[w,T.kept];show _=_+if _ then t.took d+(if d=b then min t.left (av b) else 0) else 0;rw[p];by_cases g:a=order.toNat/\c=line.toNat
 .rw[if_pos g,if_pos g];by_cases hd:d=b
  .have:bj (kc order.toNat line.toNat b m) a c d=true:=by
    unfold bj kc;simp[g,hd]
   rw[this,if_pos hd,if_pos rfl];show _+m=_;omega
  have:bj (kc order.toNat line.toNat b m) a c d=false:=by
   cases k:bj (kc order.toNat line.toNat b m) a c d
   .rfl
   exact absurd (fi k).2.2.symm hd
  rw[this,if_neg hd];simp
 have:bj (kc order.toNat line.toNat b m) a c d=false:=by
  cases k:bj (kc order.toNat line.toNat b m) a c d
  .rfl
  have:=fi k;exact absurd ⟨this.1.symm,this.2.1.symm⟩ g
 rw[this,if_neg g,if_neg g];simp
end
structure iy(p:Pl)(s:St)(o l:Nat)(n:Int):Prop where
 fm:cw p s
 av:∀b,b<p.nb->0<=ar s b ((s.os.z o).ls.z l).o.toNat
 on:o<s.os.n
 ln:l<(s.os.z o).ls.n
 n0:0<=n
 bk:n<=((s.os.z o).ls.z l).n
 sum:((s.os.z o).ls.z l).n+keptS s.hs.z o l s.hs.n<=200
def avT(s:St)(o l:Nat)(b:Int):Int:=ar s b.toNat ((s.os.z o).ls.z l).o.toNat
section
variable {p:Pl} {s x:St} {o l:Nat} {n:Int} {L:List Int} {t:Tk}
theorem iy.good(h:iy p s o l n):0<=((s.os.z o).ls.z l).o/\((s.os.z o).ls.z l).o<p.ns:=(dz (h.fm.line _ h.on _ h.ln)).1
theorem iy.tk(h:iy p s o l n)(b:L.Pairwise (λx y=>¬x=y))(a:∀x,x∈L->0<=x/\x<p.nb):Ac (avT s o l) n L (Tk.go (avT s o l) n L):=by
 refine abo h.n0 b (λx hx => ?_) (λx hx => ?_)
 .have:=a x hx;exact h.av _ (by omega)
 have:=a x hx;have:=h.fm.sh.pl.nb6;omega
theorem iy.inBins(d:∀x,x∈L->0<=x/\x<p.nb)(k:Ac (avT s o l) n L t):∀b,¬t.took b=0->0<=b/\b<p.nb:=λb c=>by
 apply Classical.byContradiction
 intro hc;exact c (k.other b λa=>hc (d b a))
theorem iy.formed(h:iy p s o l n)(a:∀x,x∈L->0<=x/\x<p.nb)(k:Ac (avT s o l) n L t)(T:ep s o l n t x):cw p x:=by
 have c:=k.left0;have d:=k.leftn;have b:=h.bk;exact T.formed h.fm h.on h.ln (iy.inBins a k) (by omega) (by omega)
theorem iy.availAt(h:iy p s o l n)(d:∀x,x∈L->0<=x/\x<p.nb)(k:Ac (avT s o l) n L t)(T:ep s o l n t x)(c:b<p.nb)(a:((b:Nat):Int) ∉ L):ar x b ((s.os.z o).ls.z l).o.toNat=avT s o l b:=by
 have e:=h.good;rw[T.avail h.fm (h.formed d k T) h.on h.ln c (by omega),k.other b a];unfold avT;rw[show((b:Nat):Int).toNat=b from rfl]
 split<;>omega
theorem iy.addE(h:iy p s o l n)(d:∀x,x∈L->0<=x/\x<p.nb)(k:Ac (avT s o l) n L t)(T:ep s o l n t x){b:Int}(g:0<=b/\b<p.nb){m:Int}(w:0<m)(v:m<=t.left):
  gy (kc o l b m)=true/\keptV x.hs.n x.hs.z o l b+m<=200/\Go.Proofs.YtbcacebifpagpafGreat.addE x.hs.n x.hs.z (kc o l b m)=0:=by
 have fx:=h.formed d k T;have nb6:=fx.sh.pl.nb6;have os4:=h.fm.os4;have y:=(h.fm.lns _ h.on).2;have A:=h.on;have B:=h.ln;have e:=T.keptS h.fm k.sum o l;rw[if_pos ⟨rfl,rfl⟩] at e;have hs:=h.sum;have q:=h.bk;have r:=k.leftn;obtain⟨a,rfl⟩:=Qzz g.1;have u:=M2 T.right o l (b:=a) (by omega);have i:=(ro (z:=s.hs.z) o l s.hs.n λj f=>(cy (bw h.fm.hold j f)).2.2.2).1;have c:gy (kc o l a m)=true:=by
  unfold gy kc;rw[bq (by dsimp only;omega),bq (by dsimp only;omega),bq (by dsimp only;omega),bq (by dsimp only;omega)]
  rfl
 refine⟨c,by omega,?_⟩;rw[S7 T.right c,if_neg];show ¬200<keptV x.hs.n x.hs.z o l a+m;omega
end
theorem Tk.go_congr{av a:Int->Int}{n:Int}:∀{L:List Int} {t:Tk},(∀b,b∈L->av b=a b)->L.foldl (Tk.step av) t=L.foldl (Tk.step a) t
 | [],_,_=>rfl
 | b :: L,t,h=>by
  rw[List.foldl_cons,List.foldl_cons,show Tk.step av t b=Tk.step a t b by unfold Tk.step;rw[h b (by simp)]];exact Tk.go_congr (n:=n) λc hc=>h c (by simp[hc])
theorem iy.same{n:Int}(h:iy p s o l n)(k:ae x s):iy p x o l n:=by
 have f:o<x.os.n:=by rw[k.os.1];exact h.on
 have e:=k.os.2 o f;have c:l<(x.os.z o).ls.n:=by rw[e.2.1];exact h.ln
 have a:=e.2.2 l c;have i:=h.good;refine⟨k.formed h.fm,λb d => ?_,f,c,h.n0,by rw[a];exact h.bk,?_⟩
 .rw[a,k.avail h.fm d (by omega)];exact h.av b d
 rw[a,k.hs.1,Bb _ _ λj g=>k.hs.2 j (by rw[k.hs.1];exact g)];exact h.sum
theorem ep.base{e:St}{n:Int}{t:Tk}(k:ae e s)(h:ep e o l n t x):ep s o l n t x:=by
 have r:=k;refine⟨⟨h.on.1.trans k.on.1,λi hi => ?_⟩,⟨h.os.1.trans k.os.1,λi hi => ?_⟩,h.right,λa b c => ?_,⟨h.ms.1.trans k.ms.1,λj d=>(h.ms.2 j d).trans (k.ms.2 j (by rw[<-h.ms.1];exact d))⟩,⟨h.si.1.trans k.si.1,λj d=>(h.si.2 j d).trans (k.si.2 j (by rw[<-h.si.1];exact d))⟩,⟨h.so.1.trans k.so.1,λj d=>(h.so.2 j d).trans (k.so.2 j (by rw[<-h.so.1];exact d))⟩,⟨h.sf.1.trans k.sf.1,λj d=>(h.sf.2 j d).trans (k.sf.2 j (by rw[<-h.sf.1];exact d))⟩⟩
 .have a:=h.on.2 i hi;have b:=k.on.2 i (by rw[<-h.on.1];exact hi);exact⟨a.1.trans b.1,λj d=>(a.2 j d).trans (b.2 j (by rw[<-a.1];exact d))⟩
 .have a:=h.os.2 i hi;have b:=k.os.2 i (by rw[<-h.os.1];exact hi);refine⟨a.1.trans b.1,a.2.1.trans b.2.1,λj d => ?_⟩;rw[a.2.2 j d,b.2.2 j (by rw[<-a.2.1];exact d)]
 rw[h.kept,k.hs.1,yb λj d=>k.hs.2 j (by rw[k.hs.1];exact d)]
theorem aad{n but:Int}(h:iy p s o l n)(k:ae x s):Tk.go (avT x o l) n (fc p but)=Tk.go (avT s o l) n (fc p but):=by
 unfold Tk.go;refine Tk.go_congr (n:=n) λb a => ?_;have c:o<x.os.n:=by rw[k.os.1];exact h.on
 have e:=k.os.2 o c;have d:l<(x.os.z o).ls.n:=by rw[e.2.1];exact h.ln
 have f:=h.good;have g:=Fb (vv.1 a).1;unfold avT;rw[e.2.2 l d];exact k.avail h.fm (by omega) (by omega)
theorem Uk{bin good n:Int}(h:gw p s bin good n=0):ah p s=0:=by
 apply Classical.byContradiction
 intro a;rw[Em a] at h;exact a h
theorem Gg{t:St}(a:Dj s)(b:Dj t):ae s t:=by
 obtain⟨a1,h,g,e,d,k,f⟩:=a;obtain⟨b1,b2,b3,b4,b5,b6,b7⟩:=b;exact⟨⟨by omega,λi hi=>absurd hi (by omega)⟩,⟨by omega,λi hi=>absurd hi (by omega)⟩,⟨by omega,λj c=>absurd c (by omega)⟩,⟨by omega,λj c=>absurd c (by omega)⟩,⟨by omega,λj c=>absurd c (by omega)⟩,⟨by omega,λj c=>absurd c (by omega)⟩,⟨by omega,λj c=>absurd c (by omega)⟩⟩
theorem dv.same{t:St}(a:dv r t x)(b:dv r t y):ae x y:=by
 by_cases h:r=0
 .exact(a.1 h).trans (b.1 h).symm
 exact Gg (a.2 h) (b.2 h)
theorem dv.bound{t:St}(h:dv r t x)(f:r=0->t.os.n<=1000/\t.ms.n<=1000/\∀i,i<t.os.n->(t.os.z i).ls.n<=1000):x.os.n<=1000/\x.ms.n<=1000/\∀i,i<x.os.n->(x.os.z i).ls.n<=1000:=by
 by_cases b:r=0
 .obtain⟨e,k,c⟩:=f b;have a:=h.1 b;have l:x.os.n=t.os.n:=a.os.1;have u:x.ms.n=t.ms.n:=a.ms.1;refine⟨by omega,by omega,λi hi => ?_⟩;have E:(x.os.z i).ls.n=(t.os.z i).ls.n:=(a.os.2 i hi).2.1;have:=c i (by omega);omega
 obtain⟨a1,o,m,g,d,q,j⟩:=h.2 b;exact⟨by omega,by omega,λi hi=>absurd hi (by omega)⟩
theorem zo.same{order line n but:Int}(a:zo p s order line n but x)(b:zo p s order line n but y):ae x y:=by
 by_cases h:fa p s order line n but=0
 .exact(a.1 h).same (b.1 h)
 exact Gg (a.2 h) (b.2 h)
theorem zo.bound{order line n but:Int}(a:zo p s order line n but x):x.os.n<=1000/\x.ms.n<=1000/\∀i,i<x.os.n->(x.os.z i).ls.n<=1000:=by
 by_cases h:fa p s order line n but=0
 .have f:=(ew (allocIn h).st).fm;have T:=a.1 h;have m:=f.os4;have c:=f.ms8;have j:=T.os.1;have d:=T.ms.1;refine⟨by omega,by omega,λi hi => ?_⟩;rw[(T.os.2 i hi).2.1];have:=f.lns i (by omega);omega
 obtain⟨a1,l,k,e,b,o,g⟩:=a.2 h;exact⟨by omega,by omega,λi hi=>absurd hi (by omega)⟩
theorem M3{p:Pl}{f:Bool}{b:Nat}:∀{k:Nat},b<k->(p.zb b).front=f->((b:Nat):Int)∈frL p f k
 | k+1,hb,hf=>by
  by_cases c:b=k
  .subst c;rw[uy hf];simp
  have h:=M3 (k:=k) (by omega) hf;by_cases a:(p.zb k).front=f
  .rw[uy a];simp[h]
  rw[vo a];exact h
theorem S9(c:b<p.nb):((b:Nat):Int)∈fw p:=by
 unfold fw;rw[List.mem_append];cases a:(p.zb b).front
 .exact Or.inr (M3 c a)
 exact Or.inl (M3 c a)
theorem ep.trans{z:St}{k m:Int}{q p:Tk}(a:ep s o l k q y)(b:ep y o l m p z):ep s o l (k+m) ⟨q.left+p.left,λc=>q.took c+p.took c⟩ z:=by
 refine⟨⟨b.on.1.trans a.on.1,λi hi => ?_⟩,⟨b.os.1.trans a.os.1,λi hi => ?_⟩,b.right,λe f g => ?_,⟨b.ms.1.trans a.ms.1,λj d=>(b.ms.2 j d).trans (a.ms.2 j (by rw[<-b.ms.1];exact d))⟩,⟨b.si.1.trans a.si.1,λj d=>(b.si.2 j d).trans (a.si.2 j (by rw[<-b.si.1];exact d))⟩,⟨b.so.1.trans a.so.1,λj d=>(b.so.2 j d).trans (a.so.2 j (by rw[<-b.so.1];exact d))⟩,⟨b.sf.1.trans a.sf.1,λj d=>(b.sf.2 j d).trans (a.sf.2 j (by rw[<-b.sf.1];exact d))⟩⟩
 .have x:=b.on.2 i hi;have r:=a.on.2 i (by rw[<-b.on.1];exact hi);exact⟨x.1.trans r.1,λj d=>(x.2 j d).trans (r.2 j (by rw[<-x.1];exact d))⟩
 .have x:=b.os.2 i hi;have r:=a.os.2 i (by rw[<-b.os.1];exact hi);refine⟨x.1.trans r.1,x.2.1.trans r.2.1,λj d => ?_⟩;rw[x.2.2 j d,r.2.2 j (by rw[<-x.2.1];exact d)];by_cases h:i=o/\j=l
  .rw[if_pos h,if_pos h,if_pos h];unfold i5
   congr 1
   show _-(k-q.left)-(m-p.left)=_-(k+m-(q.left+p.left));omega
  rw[if_neg h,if_neg h,if_neg h]
 rw[b.kept,a.kept];show _=_+if _ then q.took g+p.took g else 0;by_cases n:e=o/\f=l
 .rw[if_pos n,if_pos n,if_pos n];omega
 rw[if_neg n,if_neg n,if_neg n];omega
section
variable {p:Pl} {s x y z:St} {order line n but k:Int}
theorem np.less(h:np p s order line n but)(b:0<=k/\k<=n):fa p s order line k but=0:=by
 have a:qh p s order line k but=false:=by
  unfold qh xc;have c:=h.n2;have on:=h.on;have o0:=h.o0;have ln:=h.ln;have l0:=h.l0;rw[bq (by omega),bq (by omega),bq (by omega)];rcases h.bt with e|e
  .rw[e];rfl
  rw[bq (by omega)];simp
 exact Hw h.st a h.kd (by have:=h.bk;omega)
theorem np.rightX(h:np p s order line n but)(hx:zo p s order line n but x):au p x :=
 (hx.1 (h.less ⟨h.n0,Int.le_refl _⟩)).rightAt h (λx hx=>h.way x hx) (h.tk (un p but) (λx hx=>h.way x hx))
theorem np.none(h:np p s order line n but)(hx:zo p s order line n but x)(c:0<Bm p s order line n but)(f:b<p.nb)(a:¬((b:Nat):Int)=but):ar x b (fj s order line).o.toNat=0:=by
 have e:=h.less ⟨h.n0,Int.le_refl _⟩;have T:=hx.1 e;have r:=h.rightX hx;have k:=h.tk (un p but) (λx hx=>h.way x hx);unfold Bm at c;rw[if_pos e] at c;have i:=h.good;have g:((b:Nat):Int)∈fc p but:=vv.2 ⟨S9 f,a⟩;have j:=k.all c b g;rw[T.avail (ew h.st).fm r.fm h.on h.ln f (by omega),if_pos (by unfold fj;unfold fj at i;omega)];show _-(M7 p s (fj s order line).o n but).took b=0;have d:(M7 p s (fj s order line).o n but).took b=ar s b (fj s order line).o.toNat:=j;rw[d];omega
end
theorem ae.self(s:St):ae s s:=⟨⟨rfl,λ_ _=>⟨rfl,λ_ _=>rfl⟩⟩,⟨rfl,λ_ _=>⟨rfl,rfl,λ_ _=>rfl⟩⟩,⟨rfl,λ_ _=>rfl⟩,⟨rfl,λ_ _=>rfl⟩,⟨rfl,λ_ _=>rfl⟩,⟨rfl,λ_ _=>rfl⟩,⟨rfl,λ_ _=>rfl⟩⟩
theorem z6(r:au p s)(e:o<s.os.n)(b:l<(s.os.z o).ls.n):0<=((s.os.z o).ls.z l).n/\((s.os.z o).ls.z l).n+keptS s.hs.z o l s.hs.n<=200/\0<=keptS s.hs.z o l s.hs.n:=by
 have w:=r.orders o e;unfold cg at w;rw[Xxq] at w;have a:cp (s.os.z o).k ((s.os.z o).ls.z l) (keptS s.hs.z o l s.hs.n)=false:=dj w.2 l b;obtain⟨b1,b2,b3,b4⟩:=dz (r.fm.line o e l b);have g:=(ro (z:=s.hs.z) o l s.hs.n λj f=>(cy (bw r.fm.hold j f)).2.2.2).1;unfold cp at a;by_cases d:(s.os.z o).k=0
 .rw[if_pos d] at a;simp only[Xxq,Bool.not_eq_false',beq_iff_eq] at a;omega
 rw[if_neg d] at a;by_cases c:(s.os.z o).k=2
 .rw[if_pos c] at a;simp only[Xxq,Bool.not_eq_false',beq_iff_eq] at a;omega
 rw[if_neg c] at a;simp only[Bool.not_eq_false',beq_iff_eq] at a;omega
theorem au.takeIn(r:au p s)(d:o<s.os.n)(a:l<(s.os.z o).ls.n){n:Int}(e:0<=n)(c:n<=((s.os.z o).ls.z l).n):iy p s o l n:=by
 have q:=z6 r d a;have f:=(dz (r.fm.line o d l a)).1;exact⟨r.fm,λb c=>(kq (r.goods _ (by omega))).2 b c,d,a,e,c,q.2.1⟩
def lg(p:Pl)(but:Int)(y:St)(i j:Nat)(n:Int)(x:St):Prop:=ep y i j n (Tk.go (avT y i j) n (fc p but)) x
structure jz(p:Pl)(but:Int)(y:St)(i j:Nat)(n:Int):Prop where
 r:au p y
 on:i<y.os.n
 ln:j<(y.os.z i).ls.n
 n0:0<=n
 kd:n=0\/(y.os.z i).k=1/\n<=((y.os.z i).ls.z j).n
 bt:but = -1\/0<=but/\but<p.nb
section
variable {p:Pl} {but:Int} {s y x:St} {i j:Nat} {n:Int}
theorem jz.bk(h:jz p but y i j n):n<=((y.os.z i).ls.z j).n:=by
 have q:=z6 h.r h.on h.ln;rcases h.kd with e|e
 .omega
 exact e.2
theorem jz.tki(h:jz p but y i j n):iy p y i j n:=h.r.takeIn h.on h.ln h.n0 h.bk
theorem jz.way(x:Int)(hx:x∈fc p but):0<=x/\x<p.nb:=Fb (vv.1 hx).1
theorem jz.tk(h:jz p but y i j n):Ac (avT y i j) n (fc p but) (Tk.go (avT y i j) n (fc p but)):=h.tki.tk (un p but) jz.way
theorem iy.tkw{but:Int}(h:iy p y i j n):Ac (avT y i j) n (fc p but) (Tk.go (avT y i j) n (fc p but)):=h.tk (un p but) jz.way
theorem iy.none{but:Int}(h:iy p y i j 0):(Tk.go (avT y i j) 0 (fc p but)).left=0/\∀c,(Tk.go (avT y i j) 0 (fc p but)).took c=0:=by
 have k:=h.tkw (but:=but);have d:=k.left0;have e:=k.leftn;refine⟨by omega,λc => ?_⟩;have b:=k.took0 c;have a:=k.tookn c;omega
theorem lg.zero(h:iy p y i j 0)(T:lg p but y i j 0 x):ae x y:=ep.same T (ep.congr (ep.start (n:=0) h.fm.hold (ae.self y)) h.none.1 h.none.2)
theorem lg.skip(h:iy p y i j 0):lg p but y i j 0 y:=ep.congr (ep.start (n:=0) h.fm.hold (ae.self y)) h.none.1 h.none.2
theorem jz.allocIn(h:jz p but y i j n)(a:(y.os.z i).k=1):np p y i j n but:=by
 have q:=z6 h.r h.on h.ln;have b:=h.bk;have o:=h.on;have l:=h.ln;exact⟨ka h.r,by omega,o,by omega,l,h.n0,by omega,h.bt,a,b⟩
theorem lg.right(h:jz p but y i j n)(T:lg p but y i j n x):au p x:=by
 rcases h.kd with e|e
 .subst e;exact(lg.zero h.tki T).right h.r
 have I:=h.allocIn e.1;exact ep.rightAt (order:=i) (line:=j) I (λx hx=>I.way x hx) (I.tk (un p but) (λx hx=>I.way x hx)) T
theorem lg.same{b c:St}(h:iy p y i j n)(e:ae b y)(T:lg p but y i j n x)(a:lg p but b i j n c):ae c x:=by
 unfold lg at a;rw[aad h e] at a;exact(ep.base e a).same T
structure Gj(p:Pl)(but:Int)(s x:St):Prop where
 r:au p x
 osn:x.os.n=s.os.n
 kind:∀i,i<s.os.n->(x.os.z i).k=(s.os.z i).k/\(x.os.z i).ls.n=(s.os.z i).ls.n
 line:∀i,i<s.os.n->∀j,j<(s.os.z i).ls.n->((x.os.z i).ls.z j).o=((s.os.z i).ls.z j).o/\((x.os.z i).ls.z j).l=((s.os.z i).ls.z j).l/\((x.os.z i).ls.z j).b=((s.os.z i).ls.z j).b
 sum:∀i,i<s.os.n->∀j,j<(s.os.z i).ls.n->((x.os.z i).ls.z j).n+keptS x.hs.z i j x.hs.n=((s.os.z i).ls.z j).n+keptS s.hs.z i j s.hs.n/\((x.os.z i).ls.z j).n<=((s.os.z i).ls.z j).n
 on:x.on.n=s.on.n/\∀i,i<x.on.n->(x.on.r i).n=(s.on.r i).n/\∀j,j<(x.on.r i).n->(x.on.r i).z j=(s.on.r i).z j
 ms:x.ms.n=s.ms.n/\∀j,j<x.ms.n->x.ms.z j=s.ms.z j
 si:x.si.n=s.si.n/\∀j,j<x.si.n->x.si.z j=s.si.z j
 so:x.so.n=s.so.n/\∀j,j<x.so.n->x.so.z j=s.so.z j
 sf:x.sf.n=s.sf.n/\∀j,j<x.sf.n->x.sf.z j=s.sf.z j
 av:∀b g,b<p.nb->g<p.ns->ar x b g<=ar s b g/\(((b:Nat):Int)=but->ar x b g=ar s b g)
theorem ae.kept(h:ae x s)(a b:Int):keptS x.hs.z a b x.hs.n=keptS s.hs.z a b s.hs.n:=by
 rw[h.hs.1,Bb _ _ λj c=>h.hs.2 j (by rw[h.hs.1];exact c)]
theorem ae.line(h:ae x s)(hi:i<s.os.n)(a:j<(s.os.z i).ls.n):(x.os.z i).ls.z j=(s.os.z i).ls.z j:=by
 have e:=h.os.2 i (by rw[h.os.1];exact hi);exact e.2.2 j (by rw[e.2.1];exact a)
theorem Gj.self(r:au p s)(h:ae x s):Gj p but s x:=by
 refine⟨h.right r,h.os.1,λi hi => ?_,λi hi j a => ?_,λi hi j a => ?_,h.on,h.ms,h.si,h.so,h.sf,λb g d c => ?_⟩
 .have e:=h.os.2 i (by rw[h.os.1];exact hi);exact⟨e.1,e.2.1⟩
 .rw[h.line hi a];exact⟨rfl,rfl,rfl⟩
 .rw[h.line hi a,h.kept];exact⟨rfl,Int.le_refl _⟩
 rw[h.avail r.fm d c];exact⟨Int.le_refl _,λ_=>rfl⟩
theorem Gj.step(A:Gj p but s y)(h:jz p but y i j n)(T:lg p but y i j n x):Gj p but s x:=by
 have k:=h.tk;have q:=lg.right h T;have d:ep y i j n (Tk.go (avT y i j) n (fc p but)) x:=T
 generalize Tk.go (avT y i j) n (fc p but)=t at k d
 have E:=k.left0;have D:=k.leftn;refine⟨q,d.os.1.trans A.osn,λa l => ?_,λa l b m => ?_,λa l b m => ?_,⟨d.on.1.trans A.on.1,λa l => ?_⟩,⟨d.ms.1.trans A.ms.1,λc hc=>(d.ms.2 c hc).trans (A.ms.2 c (by rw[<-d.ms.1];exact hc))⟩,⟨d.si.1.trans A.si.1,λc hc=>(d.si.2 c hc).trans (A.si.2 c (by rw[<-d.si.1];exact hc))⟩,⟨d.so.1.trans A.so.1,λc hc=>(d.so.2 c hc).trans (A.so.2 c (by rw[<-d.so.1];exact hc))⟩,⟨d.sf.1.trans A.sf.1,λc hc=>(d.sf.2 c hc).trans (A.sf.2 c (by rw[<-d.sf.1];exact hc))⟩,λb g m u => ?_⟩
 .have e:=d.os.2 a (by rw[d.os.1,A.osn];exact l);have f:=A.kind a l;exact⟨e.1.trans f.1,e.2.1.trans f.2⟩
 .have f:=A.kind a l;have g:=A.line a l b m;rw[d.line (by rw[A.osn];exact l) (by rw[f.2];exact m)];by_cases c:a=i/\b=j
  .rw[if_pos c];exact g
  rw[if_neg c];exact g
 .have f:=A.kind a l;have g:=A.sum a l b m;rw[d.line (by rw[A.osn];exact l) (by rw[f.2];exact m),d.keptS h.r.fm k.sum];by_cases c:a=i/\b=j
  .rw[if_pos c,if_pos ⟨by omega,by omega⟩];show((y.os.z a).ls.z b).n-(n-t.left)+_=_/\((y.os.z a).ls.z b).n-(n-t.left)<=_;omega
  rw[if_neg c,if_neg (λe=>c ⟨by omega,by omega⟩)];omega
 .have e:=d.on.2 a l;have f:=A.on.2 a (by rw[<-d.on.1];exact l);exact⟨e.1.trans f.1,λc hc=>(e.2 c hc).trans (f.2 c (by rw[<-e.1];exact hc))⟩
 have e:=d.avail h.r.fm q.fm h.on h.ln m u;have f:=A.av b g m u;have B:=k.took0 b;refine⟨by rw[e];split<;>omega,λo => ?_⟩;have w:((b:Nat):Int) ∉ fc p but:=λv=>(vv.1 v).2 o;rw[e,k.other _ w,f.2 o]
 split<;>omega
end
def nt(a b i j:Nat):Prop:=a<i\/a=i/\b<j
structure Pos(p:Pl)(but:Int)(q:Nat->Nat->Int)(s:St)(i j:Nat)(x:St):Prop where
 al:Gj p but s x
 later:∀a b,a<s.os.n->b<(s.os.z a).ls.n->¬nt a b i j->(x.os.z a).ls.z b=(s.os.z a).ls.z b/\keptS x.hs.z a b x.hs.n=keptS s.hs.z a b s.hs.n
 none:∀a b,a<s.os.n->b<(s.os.z a).ls.n->nt a b i j->q a b=((s.os.z a).ls.z b).n->0<((x.os.z a).ls.z b).n->∀c:Nat,c<p.nb->¬((c:Nat):Int)=but->ar x c ((s.os.z a).ls.z b).o.toNat=0
 first:∀a b,a<s.os.n->b<(s.os.z a).ls.n->∀a' b',a'<s.os.n->b'<(s.os.z a').ls.n->nt a b a' b'->nt a' b' i j->q a b=((s.os.z a).ls.z b).n->0<((x.os.z a).ls.z b).n->((s.os.z a).ls.z b).o=((s.os.z a').ls.z b').o->keptS x.hs.z a' b' x.hs.n=keptS s.hs.z a' b' s.hs.n
structure QIn(p:Pl)(but:Int)(q:Nat->Nat->Int)(s:St):Prop where
 r:au p s
 q0:∀a b,a<s.os.n->b<(s.os.z a).ls.n->0<=q a b/\(q a b=0\/(s.os.z a).k=1/\q a b<=((s.os.z a).ls.z b).n)
 bt:but = -1\/0<=but/\but<p.nb
def kt(p:Pl)(but:Int)(q:Nat->Nat->Int)(i:Nat)(s:St):Nat->St->Prop
 | 0,x=>x=s
 | j+1,x=>∃y,kt p but q i s j y/\lg p but y i j (q i j) x
def ig(p:Pl)(but:Int)(q:Nat->Nat->Int)(m:Nat->Nat)(s:St):Nat->St->Prop
 | 0,x=>ae x s
 | i+1,x=>∃y,ig p but q m s i y/\kt p but q i y (m i) x
section
variable {p:Pl} {but:Int} {q:Nat->Nat->Int} {s y x:St} {i j:Nat}
theorem Pos.stepIn(Q:QIn p but q s)(P:Pos p but q s i j y)(hi:i<s.os.n)(a:j<(s.os.z i).ls.n):jz p but y i j (q i j):=by
 have k:=P.al.kind i hi;have l:=P.later i j hi a (λe=>by unfold nt at e;omega);have e:=Q.q0 i j hi a;refine⟨P.al.r,by rw[P.al.osn];exact hi,by rw[k.2];exact a,e.1,?_,Q.bt⟩;rw[k.1,l.1];exact e.2
theorem Pos.start(Q:QIn p but q s)(h:ae x s):Pos p but q s 0 0 x :=
 ⟨Gj.self Q.r h,λa b d c _=>⟨h.line d c,h.kept _ _⟩,λa b _ _ c=>by unfold nt at c;omega,λ_ _ _ _ e f _ _ _ c=>by unfold nt at c;omega⟩
theorem Pos.next(P:Pos p but q s i j x)(o:(s.os.z i).ls.n<=j):Pos p but q s (i+1) 0 x:=by
 have key:∀a b,b<(s.os.z a).ls.n->nt a b (i+1) 0->nt a b i j:=λa b c h=>by
  unfold nt at h ⊢;rcases h with h|h
  .by_cases e:a=i
   .subst e;exact Or.inr ⟨rfl,by omega⟩
   exact Or.inl (by omega)
  omega
 refine⟨P.al,λa b d c h=>P.later a b d c (λe=>h ?_),λa b d c h=>P.none a b d c (key a b c h),λa b d c l g k f h m=>P.first a b d c l g k f h (key l g f m)⟩;unfold nt at e ⊢;omega
theorem Pos.step(Q:QIn p but q s)(P:Pos p but q s i j y)(hi:i<s.os.n)(Y:j<(s.os.z i).ls.n)(T:lg p but y i j (q i j) x):Pos p but q s i (j+1) x:=by
 have I:=P.stepIn Q hi Y;have k:=I.tk;have X:=lg.right I T;have A:=P.al.step I T;have D:ep y i j (q i j) (Tk.go (avT y i j) (q i j) (fc p but)) x:=T
 generalize ht:Tk.go (avT y i j) (q i j) (fc p but)=t at k D
 have L:=P.later i j hi Y (λe=>by unfold nt at e;omega);have K:∀a,a<s.os.n->∀b,b<(s.os.z a).ls.n->a<y.os.n/\b<(y.os.z a).ls.n:=λa l b m=>⟨by rw[P.al.osn];exact l,by rw[(P.al.kind a l).2];exact m⟩;have other:∀a,a<s.os.n->∀b,b<(s.os.z a).ls.n->¬(a=i/\b=j)->(x.os.z a).ls.z b=(y.os.z a).ls.z b/\keptS x.hs.z a b x.hs.n=keptS y.hs.z a b y.hs.n:=λa l b m d=>by
  have e:=K a l b m;refine⟨by rw[D.line e.1 e.2,if_neg d],?_⟩;rw[D.keptS I.r.fm k.sum,if_neg (λe=>d ⟨by omega,by omega⟩),Int.add_zero]
 have S:∀a b,nt a b i (j+1)->¬(a=i/\b=j)->nt a b i j:=λa b h d=>by
  unfold nt at h ⊢;omega
 have ah:=k.left0;have hg:=I.tki.good;have F:((y.os.z i).ls.z j).o=((s.os.z i).ls.z j).o:=by rw[L.1]
 refine⟨A,λa b l m h => ?_,λa b l m h M B c hc U => ?_,λa b l m J H E V h h' M B W => ?_⟩
 .have d:¬(a=i/\b=j):=λe=>h (by unfold nt;omega);have e:=other a l b m d;have f:=P.later a b l m (λe=>h (by unfold nt at e ⊢;omega));exact⟨e.1.trans f.1,e.2.trans f.2⟩
 .by_cases d:a=i/\b=j
  .obtain⟨rfl,rfl⟩:=d;have e:=D.line (K a l b m).1 (K a l b m).2;rw[if_pos ⟨rfl,rfl⟩] at e;have hx:((x.os.z a).ls.z b).n=((y.os.z a).ls.z b).n-(q a b-t.left):=by rw[e];rfl
   rw[hx,L.1,<-M] at B;have G:((c:Nat):Int)∈fc p but:=vv.2 ⟨S9 hc,U⟩;have E:=k.all (by omega) c G;rw[<-F,D.avail I.r.fm X.fm I.on I.ln hc (by omega),if_pos (by omega),E];unfold avT;show ar y c _-ar y c _=0;omega
  have e:=other a l b m d;rw[e.1] at B;have f:=P.none a b l m (S a b h d) M B c hc U;have gg:=(dz (Q.r.fm.line a l b m)).1;have u:=D.avail I.r.fm X.fm I.on I.ln hc (g:=((s.os.z a).ls.z b).o.toNat) (by omega);have t0:=k.took0 c;have v:=(kq (X.goods ((s.os.z a).ls.z b).o.toNat (by omega))).2 c hc;rw[f] at u
  split at u<;>omega
 have ac:¬(a=i/\b=j):=λe=>by unfold nt at h h';omega
 have ab:=other a l b m ac;rw[ab.1] at B;by_cases d:J=i/\H=j;rotate_left
 .have e:=other J E H V d;rw[e.2];exact P.first a b l m J H E V h (S J H h' d) M B W
 obtain⟨rfl,rfl⟩:=d;have f:=P.none a b l m h M B;have tz:∀c:Nat,c<6->t.took c=0:=λc hc=>by
  by_cases G:((c:Nat):Int)∈fc p but
  .have w:=jz.way _ G;have u:=f c (by omega) (vv.1 G).2;have v:=k.had _ G;have t0:=k.took0 c;have e2:avT y J H c=ar y c ((s.os.z a).ls.z b).o.toNat:=by
    unfold avT;rw[F,W]
    rfl
   rw[e2,u] at v;omega
  exact k.other _ G
 have sz:=k.sum;rw[um λc hc=>tz c hc] at sz;rw[D.keptS I.r.fm k.sum,if_pos ⟨rfl,rfl⟩,L.2];omega
theorem kt.pos(Q:QIn p but q s)(P:Pos p but q s i 0 y)(hi:i<s.os.n):∀{j:Nat} {x:St},j<=(s.os.z i).ls.n->kt p but q i y j x->Pos p but q s i j x
 | 0,x,_,h=>by
  have b:x=y:=h;rw[b];exact P
 | j+1,x,hj,h=>by
  obtain⟨z,a,T⟩:=h;exact(kt.pos Q P hi (by omega) a).step Q hi (by omega) T
theorem ig.pos{m:Nat->Nat}(Q:QIn p but q s)(b:∀a,a<s.os.n->m a=(s.os.z a).ls.n):∀{i:Nat} {x:St},i<=s.os.n->ig p but q m s i x->Pos p but q s i 0 x
 | 0,x,_,h=>Pos.start Q h
 | i+1,x,hi,h=>by
  obtain⟨z,c,T⟩:=h;have P:=ig.pos Q b (i:=i) (by omega) c;rw[b i (by omega)] at T;exact(kt.pos Q P (by omega) nlr T).next nlr
theorem kt.skip(Q:QIn p but q s)(P:Pos p but q s i 0 y)(hi:i<s.os.n):∀{j:Nat},j<=(s.os.z i).ls.n->(∀b,b<j->q i b=0)->kt p but q i y j y
 | 0,_,_=>rfl
 | j+1,hj,h0=>by
  have T:=kt.skip Q P hi (j:=j) (by omega) λb a=>h0 b (by omega);refine⟨y,T,?_⟩;have I:=(kt.pos Q P hi (by omega) T).stepIn Q hi (by omega);rw[h0 j (by omega)] at I ⊢;exact lg.skip I.tki
theorem kt.same{b:St}(Q:QIn p but q s)(P:Pos p but q s i 0 y)(e:ae b y)(hi:i<s.os.n):∀{j:Nat} {x a:St},j<=(s.os.z i).ls.n->kt p but q i y j x->kt p but q i b j a->ae a x
 | 0,x,a,_,h,h'=>by
  have c:x=y:=h;have d:a=b:=h';rw[c,d];exact e
 | j+1,x,a,hj,⟨z,hz,T⟩,⟨z',hz',T'⟩=>by
  have f:=kt.same Q P e hi (j:=j) (by omega) hz hz';exact lg.same ((kt.pos Q P hi (by omega) hz).stepIn Q hi (by omega)).tki f T T'
theorem ig.same{m:Nat->Nat}(Q:QIn p but q s)(c:∀a,a<s.os.n->m a=(s.os.z a).ls.n):∀{i:Nat} {x b:St},i<=s.os.n->ig p but q m s i x->ig p but q m s i b->ae b x
 | 0,x,b,_,h,h'=>ae.trans h' (ae.symm h)
 | i+1,x,b,hi,⟨z,hz,T⟩,⟨z',hz',T'⟩=>by
  have f:=ig.same Q c (i:=i) (by omega) hz hz';exact kt.same Q (ig.pos Q c (by omega) hz) f (by omega) (by rw[c i (by omega)];exact Nat.le_refl _) T T'
theorem kt.base{c:Nat->Nat->Int}(a:∀b,b<(s.os.z i).ls.n->c i b=q i b):∀{j:Nat} {x:St},j<=(s.os.z i).ls.n->kt p but c i y j x->kt p but q i y j x
 | 0,x,_,h=>h
 | j+1,x,hj,⟨z,hz,T⟩=>⟨z,kt.base a (by omega) hz,by rw[<-a j (by omega)];exact T⟩
theorem ig.base{j:St}{g:Nat->Nat->Int}{m m':Nat->Nat}(e:ae j s)(f:∀a,a<s.os.n->m a=(s.os.z a).ls.n)(c:∀a,a<s.os.n->m' a=m a)(d:∀a b,a<s.os.n->b<(s.os.z a).ls.n->g a b=q a b):∀{i:Nat} {x:St},i<=s.os.n->ig p but g m' j i x->ig p but q m s i x
 | 0,x,_,h=>ae.trans h e
 | i+1,x,hi,⟨z,hz,T⟩=>⟨z,ig.base e f c d (by omega) hz,by
   rw[c i (by omega)] at T;exact kt.base (s:=s) (λb k=>d i b (by omega) k) (by rw[f i (by omega)];exact Nat.le_refl _) T⟩
end
def abk(h:Hs)(x:Hd):Hs:=⟨h.a,pj h.n h.z x,h.c,xx h.n h.z x⟩
def Vo(s:St)(o l:Nat)(m b:Int):St:=if 0<m then withHolds (setLine s o l 3 (((s.os.z o).ls.z l).n-m)) (abk s.hs (kc o l b m)) else s
def T3(s0:St)(o l:Nat):List Int->Int->St->St
 | [],_,x=>x
 | b :: L,n,x=>T3 s0 o l L (n-min n (avT s0 o l b)) (Vo x o l (min n (avT s0 o l b)) b)
def Uw(p:Pl)(but:Int)(s:St)(o l:Nat)(n:Int):St:=T3 s o l (fc p but) n s
theorem Lw{p:Pl}{s:St}{o l:Nat}{n:Int}(h:iy p s o l n):∀(f a:List Int) (x:St),(∀c,c∈a++f->0<=c/\c<p.nb)->(a++f).Pairwise (λx y=>¬x=y)->ep s o l n (Tk.go (avT s o l) n a) x->ep s o l n (Tk.go (avT s o l) n (a++f)) (T3 s o l f (Tk.go (avT s o l) n a).left x)
 | [],a,x,_,_,T=>by rw[List.append_nil];exact T
 | b :: L,a,x,hc,hp,T=>by
  have e:a++b :: L=(a++[b])++L:=by simp
  have q:=hc b (by simp);have k:=h.tk (L:=a) (List.pairwise_append.1 hp).1 (λc d=>hc c (by simp[d]));have t:=k.left0;have r:0<=avT s o l b:=h.av _ (by omega);have j:ep s o l n (Tk.go (avT s o l) n (a++[b])) (Vo x o l (min (Tk.go (avT s o l) n a).left (avT s o l b)) b):=by
   rw[Tk.go_more];unfold Vo;by_cases g:0<min (Tk.go (avT s o l) n a).left (avT s o l b)
   .rw[if_pos g];have i:=(h.addE (λc d=>hc c (by simp[d])) k T q g (Int.min_le_left _ _)).2.2;exact T.stepAdd (order:=o) (line:=l) (y:=abk x.hs (kc o l b (min (Tk.go (avT s o l) n a).left (avT s o l b)))) h.on h.ln rfl i ⟨(if_pos i).symm,λ_ _=>rfl⟩
   rw[if_neg g];exact T.stepZero (by omega)
  have R:=Lw h L (a++[b]) _ (by rw[<-e];exact hc) (by rw[<-e];exact hp) j;rw[e];have m:(Tk.go (avT s o l) n (a++[b])).left=(Tk.go (avT s o l) n a).left-min (Tk.go (avT s o l) n a).left (avT s o l b):=by rw[Tk.go_more];rfl
  rw[m] at R;exact R
theorem wy{n but:Int}(h:iy p s o l n):lg p but s o l n (Uw p but s o l n):=
 Lw h (fc p but) [] s (λc hc=>jz.way c hc) (un p but) (ep.start (n:=n) h.fm.hold (ae.self s))
def U6(p:Pl)(but:Int)(q:Nat->Nat->Int)(i:Nat):Nat->St->St
 | 0,s=>s
 | j+1,s=>Uw p but (U6 p but q i j s) i j (q i j)
def Vg(p:Pl)(but:Int)(q:Nat->Nat->Int)(m:Nat->Nat):Nat->St->St
 | 0,s=>s
 | i+1,s=>U6 p but q i (m i) (Vg p but q m i s)
section
variable {p:Pl} {but:Int} {q:Nat->Nat->Int} {s y:St} {i:Nat}
theorem Qh(Q:QIn p but q s)(P:Pos p but q s i 0 y)(hi:i<s.os.n):∀{j:Nat},j<=(s.os.z i).ls.n->kt p but q i y j (U6 p but q i j y)
 | 0,_=>rfl
 | j+1,hj=>by
  have T:=Qh Q P hi (j:=j) (by omega);exact⟨_,T,wy ((kt.pos Q P hi (by omega) T).stepIn Q hi (by omega)).tki⟩
theorem Kl{m:Nat->Nat}(Q:QIn p but q s)(b:∀a,a<s.os.n->m a=(s.os.z a).ls.n):∀{i:Nat},i<=s.os.n->ig p but q m s i (Vg p but q m i s)
 | 0,_=>ae.self s
 | i+1,hi=>by
  have T:=Kl Q b (i:=i) (by omega);exact⟨_,T,by
   rw[show m i=(s.os.z i).ls.n from b i (by omega)];show kt p but q i _ _ (U6 p but q i (m i) _);rw[b i (by omega)];exact Qh Q (ig.pos Q b (by omega) T) (by omega) nlr⟩
end
def vi(x:Hd):Hd:=⟨x.o,x.l,x.b,x.l-x.b⟩
def xe(h:Hs)(k:Nat):Hs:=⟨h.a,h.n,h.c,λj=>if j<k then vi (h.z j) else h.z j⟩
def Fi(os:Os)(i k:Nat):Os:=⟨os.a,os.n,os.c,λa=>if a=i then ⟨(os.z a).k,xe (os.z a).ls k⟩ else os.z a⟩
def fk(s:St)(i k:Nat):St:=⟨s.on,Fi s.os i k,s.hs,s.ms,s.si,s.so,s.sf⟩
theorem wm(s:St)(i k:Nat):((fk s i k).os.z i)=⟨(s.os.z i).k,xe (s.os.z i).ls k⟩:=if_pos rfl
theorem Fp(s:St)(i:Nat):fk s i 0=s:=by
 unfold fk Fi;have e:(λa=>if a=i then(⟨(s.os.z a).k,xe (s.os.z a).ls 0⟩:Od) else s.os.z a)=s.os.z:=by
  funext a
  by_cases h:a=i
  .rw[if_pos h];have c:xe (s.os.z a).ls 0=(s.os.z a).ls:=by
    unfold xe;have b:(λj=>if j<0 then vi ((s.os.z a).ls.z j) else(s.os.z a).ls.z j)=(s.os.z a).ls.z:=by funext j;rw[if_neg (Qzq _)]
    rw[b]
   rw[c]
  rw[if_neg h]
 rw[e]
theorem Gu(s:St)(i k:Nat):setLine (fk s i k) i k 3 (((s.os.z i).ls.z k).l-((s.os.z i).ls.z k).b)=fk s i (k+1):=by
 have e:Cg (Fi s.os i k) i k 3 (((s.os.z i).ls.z k).l-((s.os.z i).ls.z k).b)=Fi s.os i (k+1):=by
  unfold Cg Fi;dsimp only
  congr 1
  funext a
  by_cases h:a=i
  .subst h;simp only[↓reduceIte]
   congr 1
   unfold ym xe;dsimp only
   congr 1
   funext j
   by_cases d:j=k
   .subst d;rw[if_pos rfl,if_neg (Nat.lt_irrefl _),if_pos (by omega)]
    rfl
   rw[if_neg d];by_cases c:j<k
   .rw[if_pos c,if_pos (by omega)]
   rw[if_neg c,if_neg (by omega)]
  rw[if_neg h,if_neg h,if_neg h]
 unfold setLine;rw[show(fk s i k).os=Fi s.os i k from rfl,e]
 rfl
def oe(w wk:World):Prop:=∀(q:Nat) (t:TypeId) (m:Nat) (f:Nat->Value),t≠68->t≠66->Blk w q t m f->Blk wk q t m f
theorem oe.below{b:World}(h:oe w a)(e:Below a.heap.size a b):oe w b:=λq t m f g d c=>(h q t m f g d c).below e
theorem oe.refl(w:World):oe w w:=λ_ _ _ _ _ _ h=>h
theorem oe.trans{b:World}(h:oe w a)(k:oe a b):oe w b:=λq t m f d c e=>k q t m f d c (h q t m f d c e)
theorem oe.setLine{b:World}(h:oe w b){B:Nat}{z:Nat->Value}(g:Blk b B 68 n z)(j:Nat)(u:Value):oe w (b.setCell ⟨B,j,none⟩ u):=λq t m f c e d=>(h q t m f c e d).other (a:=⟨B,j,none⟩) (Blk.ne2 (h q t m f c e d) g c) u
theorem oe.setOrder{b:World}(h:oe w b){B:Nat}{z:Nat->Value}(g:Blk b B 66 n z)(j:Nat)(u:Value):oe w (b.setCell ⟨B,j,none⟩ u):=λq t m f e c d=>(h q t m f e c d).other (a:=⟨B,j,none⟩) (Blk.ne2 (h q t m f e c d) g c) u
theorem Pz(x:St)(i A gO:Nat)(w:World)(hA:A<=w.heap.size)(Q:ai A w x)(hi:i<x.os.n)(K:x.os.a=some ⟨gO,0,none⟩)(ac:∀j,j<(x.os.z i).ls.n->(0<=((x.os.z i).ls.z j).l/\((x.os.z i).ls.z j).l<=200)/\0<=((x.os.z i).ls.z j).b/\((x.os.z i).ls.z j).b<=200):
  Calls prog 61 #[.pointer (some ⟨gO,i*2,none⟩)] w λe E=>e = .returned (.tuple #[])/\ai A E (fk x i (x.os.z i).ls.n)/\Below A w E/\oe w E:=by
 obtain⟨g,F,bk,v⟩:=Q.os.list (by omega);obtain⟨B,b1,b2,b3,b4,b5⟩:=Q.os.lines i hi;have a4:g=gO:=by rw[K] at F;simpa using F.symm
 subst a4;have bj:Hid (∀q k,ai A q (fk x i k)->∀{l:Nat},l<(x.os.z i).ls.n->∃f B',(fk x i k).os.a=some ⟨f,0,none⟩/\f<q.heap.size/\q.cell? ⟨f,i*2+1,none⟩=some (.slice (some ⟨B',0,none⟩) (x.os.z i).ls.n (x.os.z i).ls.c)/\((fk x i k).os.z i).ls.a=some ⟨B',0,none⟩):=λq k h l hl=>by
  have J:l<((fk x i k).os.z i).ls.n:=by rw[wm];exact hl
  obtain⟨f,B',P,f2,f3,f4,u,_⟩:=h.lineCell (o:=i) (l:=l) hi J;rw[wm] at f4;exact⟨f,B',P,f3,f4,u⟩
 have aq:Hid _:=ac;have c0:=v.cell (j:=i*2+1) (by omega);rw[qc (z:=x.os.z) hi (show 1<2 by decide)] at c0;have c1:w.cell? ⟨g,i*2+1,none⟩=some (.slice (x.os.z i).ls.a (x.os.z i).ls.n (x.os.z i).ls.c):=c0;clear c0;rw[b1] at c1;have gl:=v.lt;have s:Hid (ai A w (fk x i 0)):=by show ai A w (fk x i 0);rw[Fp];exact Q
 have a3:=hid b1;have au:=hid K;unfold maxLen at b4;clear Q F v b1 b5 K ac;go_enter func61,ntmps61;go_wp2_with fail;clear c1 gl
 go_loopw [9] (λkv q=>∃k:Nat,k<=(x.os.z i).ls.n/\kv = .int .i64 k/\Hid (ai A q (fk x i k))/\Hid (Below A w q)/\Hid (oe w q)) (λkv _=>(x.os.z i).ls.n-(intOf kv).toNat)
 case atStart=>exact⟨0,Qxz _,rfl,s,Below.refl _ _,oe.refl _⟩
 clear s;obtain⟨k,hk,rfl,s,M,HK⟩:=hrel;by_cases aa:k<(x.os.z i).ls.n;rotate_left
 .have a1:k=(x.os.z i).ls.n:=by omega
  subst a1;go_wp2_with fail
  first|go_end0|refine Xzq (results_none rfl _ _ _) rfl ?_
  exact⟨rfl,s.out,M.out,HK.out⟩
 have J:k<((fk x i k).os.z i).ls.n:=by rw[wm];exact aa
 obtain⟨f,B',P,f2,f3,f4,u,f6,f7,f8,f9,a6,a0,ao,a7,ay⟩:=s.out.lineCell (o:=i) (l:=k) hi J;have e1:f=g:=by
  have h:x.os.a=some ⟨f,0,none⟩:=P;rw[au.out] at h
  simpa using h.symm
 have e2:B'=B:=by
  have h:(x.os.z i).ls.a=some ⟨B',0,none⟩:=by rw[wm] at u;exact u
  rw[a3.out] at h
  simpa using h.symm
 subst e1;subst e2;have S:=hid u;have hz:((fk x i k).os.z i).ls.z k=(x.os.z i).ls.z k:=by
  rw[wm];exact if_neg (Nat.lt_irrefl _)
 rw[hz] at a0 ao a7 ay;rw[wm] at f4;have an:wr.cell? ⟨f,i*2+1,none⟩=some (.slice (some ⟨B',0,none⟩) (x.os.z i).ls.n (x.os.z i).ls.c):=f4;clear f4;have a5:Hid (setLine (fk x i k) i k 3 (((x.os.z i).ls.z k).l-((x.os.z i).ls.z k).b)=fk x i (k+1)):=Gu x i k;have hb:=aq.out k aa;have q0:(0:Int)<=(k:Int):=by omega
 have q1:(k:Int)<((x.os.z i).ls.n:Int):=by omega
 generalize (x.os.z i).ls.z k=Z at *
 obtain⟨W,hW,t,KX⟩:∃W,wr.alloc (.cells #[.int .i64 Z.o,.int .i64 Z.l,.int .i64 Z.b,.int .i64 Z.n] 68)=W/\Below wr.heap.size wr W/\Blk W wr.heap.size 68 4 (λj=>(#[.int .i64 Z.o,.int .i64 Z.l,.int .i64 Z.b,.int .i64 Z.n]:Array Value).getD j default):=⟨_,rfl,brf.alloc nlr _,Blk.mk' rfl rfl⟩;have HW:Hid (wr.alloc (.cells #[.int .i64 Z.o,.int .i64 Z.l,.int .i64 Z.b,.int .i64 Z.n] 68)=W):=hW;have T:=hid (s.out.below t);have D:=M.out.trans (t.mono (Qzx hA M.out.size));have ad:Hid (oe w W):=HK.out.below t;have t1:∀d os,(grow (redrawn W d) os).cell? ⟨f,i*2+1,none⟩=some (.slice (some ⟨B',0,none⟩) (x.os.z i).ls.n (x.os.z i).ls.c):=λd os=>Qqq ((t.cell (p:=⟨f,i*2+1,none⟩) f3).trans an) d os;have t2:=Qqq (KX.k 1);have t3:=Qqq (KX.k 2);clear hW hz P f2 u f8 f9 a6 KX s M HK;go_wp2_with fail;rw[HW.out];refine jt (λE=>∃p:Regrown,E=grow (redrawn W p.d) p.os) (List.range 12) [] [(true,12)] (Qqx (brf.drew)) ?_;rw[show List.range 12=[0,1,2,3,4,5,6,7,8,9,10,11] from rfl];simp only[dw,Qyq,Xqq,Qyx,Qyz,Xqz,Xqx]
 repeat(go_big_quiet_step(fail))
 refine Qqz ?_;clear t1 t2 t3;refine⟨λ_ _ _ _=>True,Qjq _,Qjq _,Qjq _,λV G wj hS _ _ => ?_⟩;have L:=af hS;have H:=ai.below T.out L;have X:=D.trans (L.mono (Qzx hA D.size));have Y:=ad.out.below L;obtain⟨Bq,r,-,-,-,m⟩:=H.os.lines i hi;rw[S.out] at r;simp only[Qkx,Qkz,and_true] at r;subst r;have zl:=m.lt;have zf:=m.frozen (k*4+3);have zc:=m.cell (j:=k*4+3) (by omega);have y:=H.setLine (o:=i) hi S.out k 3 (by decide) (Z.l-Z.b);have ab:=Y.setLine m (k*4+3) (.int .i64 (Z.l-Z.b));have U:=X.setCell (p:=⟨B',k*4+3,none⟩) (by show A<=B';omega) (.int .i64 (Z.l-Z.b));rw[a5.out] at y;have HN:=qa3 y U ab;clear H X Y m y ab U L hS T ad D
 generalize (ax ((fk x i k).os.z i).ls.n ((fk x i k).os.z i).ls.z).getD (k*4+3) default=VV at zc
 simp only[ap];refine dk 12 rfl ?_;go_wp2_with fail;refine⟨jq.yes,?_⟩;refine NoPanic.normal ?_;go_wp2_with fail;go_roundw
 case rel=>exact⟨k+1,by omega,by go_num,HN.out.1,HN.out.2.1,HN.out.2.2⟩
 case measure=>simp[intOf];omega
theorem aaw(w:World):(zeroValue 3).run prog w = .ok (.int .i64 0) w:=by kernel_rfl
theorem Blk.setCells{g:Nat}{e:TypeId}{n:Nat}{f:Nat->Value}:∀(a:List Value) (o:Nat) (w:World),Blk w g e n f->n<=o->Blk (w.setCells g o a) g e n f
 | [],_,_,h,_=>h
 | v :: r,o,w,h,hn=>by
  rw[World.setCells];exact Blk.setCells r (o+1) _ ((h.set o v).congr λj b=>by rw[if_neg (by omega)]) (by omega)
theorem yi{B g:Nat}(b:B<=g){a:World}:∀(c:List Value) (o:Nat) (w:World),Below B a w->Below B a (w.setCells g o c)
 | [],_,_,h=>h
 | v :: r,o,w,h=>by
  rw[World.setCells];exact yi b r (o+1) _ (h.setCell (p:=⟨g,o,none⟩) b v)
theorem Blk.less(h:Blk w g e n f)(i:m<=n):Blk w g e m f:=by
 obtain⟨cur,b,c,a⟩:=h;exact⟨cur,b,by omega,λj d=>a j (by omega)⟩
theorem ab0(f:Nat)(caps:Array Value)(bad:Nat->Bool)(A:Nat)(a:Option Addr)(n c:Nat)(w:World)(D:A<=w.heap.size)(G:n<=c)(hc:c<=maxLen)(z:Nat->Int)(v:vr w a n z)
  (F:∀args w,(callFunc f args).run prog w = .ok (.enter f args) w)
  (B:Hid (∀i d,i<n->Below A w d->Calls prog f (#[.int .i64 (z i)]++caps) d λe r=>e = .returned (.bool (bad i))/\Below d.heap.size d r)) :
  Calls prog 147 #[.slice a n c,.func (.func f) #[] caps] w λe r=>((e = .returned (.int .i64 (-1))/\∀j,j<n->bad j=false)\/∃k,k<n/\e = .returned (.int .i64 (k:Nat))/\bad k=true/\∀j,j<k->bad j=false)/\Below w.heap.size w r:=by
 unfold maxLen at hc;go_enter func147,ntmps147;go_wp2_with fail
 go_loopw [8] (λi d=>∃k:Nat,k<=n/\i = .int .i64 k/\(∀j,j<k->bad j=false)/\Below w.heap.size w d) (λi _=>n-(intOf i).toNat)
 case atStart=>exact⟨0,Qxz _,rfl,λj u=>absurd u (Qzq _),Below.refl _ _⟩
 obtain⟨k,E,rfl,p,l⟩:=hrel;have q:=hid p;clear p;by_cases g:k<n;rotate_left
 .go_wp2_with fail;go_ret;have s:k=n:=by omega
  subst s;exact⟨Or.inl ⟨rfl,q.out⟩,l⟩
 obtain⟨b,o,rfl,_,y⟩:=(v.below l) k g;clear v;go_wp2_with fail;refine(B.out k wr g (l.mono D)).mono ?_;rintro e d ⟨rfl,x⟩;have m:=l.trans (x.mono l.size);cases h:bad k
 .go_wp2_with fail;go_roundw
  case measure=>simp[intOf];omega
  refine⟨k+1,by omega,by go_num,?_,m⟩;intro j u;by_cases t:j=k
  .rw[t,h]
  exact q.out j (by omega)
 go_wp2_with fail;go_ret;exact⟨Or.inr ⟨k,g,rfl,h,q.out⟩,m⟩
def qu(bad:Int->Bool)(xs:List Int)(k:Nat):List Int:=(xs.take k).filter (λx => !bad x)
theorem Kg(bad:Int->Bool)(a:List Int):qu bad a a.length=a.filter (λx => !bad x):=by unfold qu;rw[List.take_length]
theorem Ih{bad:Int->Bool}{a:List Int}{k:Nat}(b:k<a.length):qu bad a (k+1)=qu bad a k++if bad (a.getD k 0) then [] else [a.getD k 0]:=by
 unfold qu;have e:a.getD k 0=a[k]:=by simp[List.getD,List.getElem?_eq_getElem b]
 rw[List.take_add_one,List.getElem?_eq_getElem b,List.filter_append,e]
 congr 1
 cases h:bad a[k]<;>simp[h]
theorem Ho{bad:Int->Bool}{a:List Int}:∀{k:Nat},k<=a.length->(∀j,j<k->bad (a.getD j 0)=false)->qu bad a k=a.take k
 | 0,_,_=>by simp[qu]
 | k+1,hk,h=>by
  rw[Ih (by omega),Ho (k:=k) (by omega) (λj b=>h j (by omega)),h k (by omega),List.take_add_one];simp[List.getD,List.getElem?_eq_getElem (show k<a.length by omega)]
def Pu(g:Nat)(bad:Int->Bool)(xs:List Int)(k:Nat)(wk:World):Prop:=∃c:Nat->Value,Blk wk g 3 xs.length c/\(∀q,q<(qu bad xs k).length->c q = .int .i64 ((qu bad xs k).getD q 0))/\∀q,k<=q->q<xs.length->c q = .int .i64 (xs.getD q 0)
theorem X6(f:Nat)(caps:Array Value)(bad:Int->Bool)(A g cap:Nat)(a:List Int)(w:World)(hA:A<=g)(S:A<=w.heap.size)(hn:a.length<=cap)(G:cap<=maxLen)(hb:Blk w g 3 a.length (λj => .int .i64 (a.getD j 0)))
  (eg:∀args w,(callFunc f args).run prog w = .ok (.enter f args) w)
  (hf:Hid (∀(x:Int) n,Below A w n->Calls prog f (#[.int .i64 x]++caps) n λe W=>e = .returned (.bool (bad x))/\Below n.heap.size n W)) :
  Calls prog 105 #[.slice (some ⟨g,0,none⟩) a.length cap,.func (.func f) #[] caps] w λe W=>e = .returned (.slice (some ⟨g,0,none⟩) (a.filter (λx => !bad x)).length cap)/\Blk W g 3 (a.filter (λx => !bad x)).length (λj => .int .i64 ((a.filter (λx => !bad x)).getD j 0))/\Below A w W:=by
 have aa:=G;unfold maxLen at G;have J:=hid hb;have hz:vr w (some ⟨g,0,none⟩) a.length (λj=>a.getD j 0):=hb.ints;clear hb;go_enter func105,ntmps105;go_wp2_with fail;refine(ab0 f caps (λj=>bad (a.getD j 0)) A _ _ _ w S hn aa _ hz eg (λi n _ h=>hf.out _ n h)).mono ?_;rintro e n ⟨h,z⟩;clear hz;have E:=z.mono S;rcases h with⟨rfl,r⟩|⟨D,ao,rfl,L,r⟩
 .have Q:a.filter (λx => !bad x)=a:=by
   have:=Ho (bad:=bad) (Nat.le_refl a.length) r;rw[Kg,List.take_length] at this;exact this
  have HF:=hid Q;clear Q r;go_wp2_with fail;go_ret;rw[HF.out];exact⟨rfl,J.out.below z,E⟩
 have M:qu bad a (D+1)=a.take D:=by rw[Ih ao,Ho (by omega) r,L];simp
 have H:(qu bad a (D+1)).length=D:=by rw[M,List.length_take];omega
 have H0:Hid (Pu g bad a (D+1) n):=⟨_,J.out.below z,λq B=>by
  rw[H] at B;rw[M];simp only[List.getD,List.getElem?_take,if_pos B],λq _ _=>rfl⟩
 have P:=hid H;clear M H L r J;go_wp2_with fail
 go_loopw [5,6] (λi j wk=>∃k:Nat,k<=a.length/\j = .int .i64 k/\i = .int .i64 ((qu bad a k).length:Nat)/\(qu bad a k).length<k/\Hid (Pu g bad a k wk)/\Below A w wk) (λ_ j _=>a.length-(intOf j).toNat)
 case atStart=>exact⟨D+1,by omega,by go_num,by rw[P.out],by rw[P.out];omega,H0,E⟩
 clear H0 P E z;obtain⟨k,hk,rfl,rfl,m,Y,U⟩:=hrel;by_cases y:k<a.length;rotate_left
 .have ak:k=a.length:=by omega
  subst ak;obtain⟨c,b,d,s⟩:=Y.out;have l:Hid (qu bad a a.length=a.filter (λx => !bad x)):=Kg bad a;rw[Kg] at m d ⊢;obtain⟨I,v⟩:∃I,(a.filter (λx => !bad x)).length=I:=⟨_,rfl⟩;have HI:=hid v;rw[v] at m d ⊢;clear v;obtain⟨N,hN⟩:∃N,a.length=N:=⟨_,rfl⟩;rw[hN] at m hn b ⊢;clear hN s y hk Y;have a5:¬cap=I:=by omega
  have a4:∀ty,(Builtin.clear_ #[23] ty #[.slice (some ⟨g,I,none⟩) (N-I) (cap-I)]).run prog wr = .ok (.tuple #[]) (wr.setCells g I (List.replicate (N-I) (.int .i64 0))):=λty =>
   Lib.run_clear_slice wr 23 3 ty (.int .i64 0) underlying23 aaw rfl rfl g I (N-I) (cap-I) (by omega) (λj hj=>by rw[b.cell (by omega)];rfl) (λj _=>b.frozen _)
  have ah:Hid (Blk (wr.setCells g I (List.replicate (N-I) (.int .i64 0))) g 3 I (λj => .int .i64 ((a.filter (λx => !bad x)).getD j 0))/\Below A w (wr.setCells g I (List.replicate (N-I) (.int .i64 0)))):=
   ⟨Blk.setCells _ _ _ ((b.less (by omega)).congr λj hj=>d j hj) nlr,yi hA _ _ _ U⟩
  clear b d;go_wp2_with fail;go_ret;rw[HI.out];exact⟨rfl,ah.out⟩
 obtain⟨c,b,d,s⟩:=Y.out;have u:=qa3 b d s;have z0:wr.cell? ⟨g,k,none⟩=some (.int .i64 (a.getD k 0)):=(b.cell y).trans (by rw[s k nlr y]);have z1:=b.lt;have V:Hid (qu bad a (k+1)=qu bad a k++if bad (a.getD k 0) then [] else [a.getD k 0]):=Ih y;have HX:Hid (a.getD k 0=a.getD k 0):=rfl;clear b d s Y;obtain⟨X,hX⟩:∃X,a.getD k 0=X:=⟨_,rfl⟩;have ac:=hid hX;rw[hX] at z0;clear hX HX;obtain⟨I,v⟩:∃I,(qu bad a k).length=I:=⟨_,rfl⟩;have l:=hid v;rw[v] at m ⊢;clear v;go_wp2_with fail;refine(hf.out X wr U).mono ?_;rintro e w2 ⟨rfl,ad⟩;have ae:=U.trans (ad.mono (Qzx S U.size));have t:=u.out.1.below ad;cases ab:bad X;rotate_left
 .have o:Hid (Pu g bad a (k+1) w2/\(qu bad a (k+1)).length=I):=by
   have T:qu bad a (k+1)=qu bad a k:=by rw[V.out,ac.out,ab];simp
   rw[T];exact⟨⟨c,t,by rw[T];exact u.out.2.1,λq B K=>u.out.2.2 q (by omega) K⟩,l.out⟩
  clear t u V;go_wp2_with fail;go_roundw
  case rel=>exact⟨_,_,_,_,_,_,_,_,_,_,_,_,_,_,_,_,_,_,_,_,_,_,_,⟨k+1,by omega,by go_num,by rw[o.out.2],by rw[o.out.2];omega,o.out.1,ae⟩,rfl⟩
  case measure=>simp[intOf];omega
 have y1:=t.frozen I;have y2:=t.cell (j:=I) (by omega);have y3:=t.lt;have KB:=t.set I (.int .i64 X);have o:Hid (Pu g bad a (k+1) (w2.setCell ⟨g,I,none⟩ (.int .i64 X))/\Below A w (w2.setCell ⟨g,I,none⟩ (.int .i64 X))/\(qu bad a (k+1)).length=I+1):=by
  have T:qu bad a (k+1)=qu bad a k++[X]:=by rw[V.out,ac.out,ab];rfl
  have e2:(qu bad a (k+1)).length=I+1:=by rw[T,List.length_append,l.out];rfl
  refine⟨⟨_,KB,λq B => ?_,λq B K => ?_⟩,ae.setCell (p:=⟨g,I,none⟩) hA _,e2⟩
  .rw[e2] at B;show(if q=I then Value.int .i64 X else c q)=_;rw[T];by_cases F:q=I
   .rw[if_pos F];simp only[List.getD];rw[List.getElem?_append_right (by rw[l.out];omega),l.out,F];simp
   rw[if_neg F,u.out.2.1 q (by rw[l.out];omega)];simp only[List.getD];rw[List.getElem?_append_left (by rw[l.out];omega)]
  show(if q=I then Value.int .i64 X else c q)=_;rw[if_neg (by omega),u.out.2.2 q (by omega) K]
 clear t KB u V;go_wp2_with fail;go_roundw
 case rel=>exact⟨_,_,_,_,_,_,_,_,_,_,_,_,_,_,_,_,_,_,_,_,_,_,_,⟨k+1,by omega,by go_num,by rw[o.out.2.2];go_num,by rw[o.out.2.2];omega,o.out.1,o.out.2.1⟩,rfl⟩
 case measure=>simp[intOf];omega
end Go.Proofs.YtbcacebifpagpafGreat

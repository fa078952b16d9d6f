/- Joined texts of DeskPlays. -/
import Derived.Test.YtjgckphgagdpaaaGreatDoorK3DeskPlays
import Derived.RegionTactic
import Derived.ChangeAlike
import Derived.Recover
import Derived.RangeFuncBox
import Derived.RangeFuncLeaves
import Derived.OwnWalkIn
import Derived.TacticsInMore
import Derived.LoopNIn
import Derived.LoopIn
import Derived.RangeFuncNested
set_option maxHeartbeats 8000000
set_option maxRecDepth 100000
namespace Go.Proofs.YtjgckphgagdpaaaGreatDoor
variable{n b A g l c i m q r j R C M u:Nat}{P:Prop}{w a w' d X:World}{s x y:St}{W J K D:Int}{e t:TypeId}{p:Pl}{z H:Nat->Hd}{f O:Nat->Value}{Q:Exit->Act->World->Prop}{v U:Value}{V Y:Hs}{Z E:Int->Int->Int}{h:Hd}{xs:List Value}{S:World->Prop}{z' zs:Nat->Int}{a1:Act}
open _root_.Go.Proofs.Tryz
open Go.RowKit
set_option linter.unusedVariables false
def iw(k:Nat)(i:Nat)(o:Od):Od:=if i<k/\o.k=0 then ⟨1,Ag o.ls o.ls.n⟩ else o
def du(s:St)(k:Nat):St:=⟨s.on,⟨s.os.a,s.os.n,s.os.c,λi=>iw k i (s.os.z i)⟩,s.hs,s.ms,s.si,s.so,s.sf⟩
theorem yr{k:Nat}(o:Od)(h:k<=i):iw k i o=o:=if_neg ow
theorem V7(s:St):du s 0=s:=by
 unfold du;have e:(λi=>iw 0 i (s.os.z i))=s.os.z:=funext λi=>yr _ (Qxz _);rw[e]
theorem Di(k i:Nat)(o:Od):(iw k i o).ls.n=o.ls.n:=by
 unfold iw
 split<;>rfl
theorem Zt{k:Nat}(h:(s.os.z k).k=0):Ow (du s k) k=du s (k+1):=by
 unfold Ow fp di du Kr Cn;dsimp only
 congr 2
 funext a
 rw[Di];by_cases c:a=k
 .subst c;rw[if_pos rfl,if_pos rfl,yr _ nlr];unfold iw;rw[if_pos ⟨ow,h⟩]
 rw[if_neg c,if_neg c];unfold iw;by_cases b:a<k/\(s.os.z a).k=0
 .rw[if_pos b,if_pos ⟨ow,b.2⟩]
 rw[if_neg b,if_neg (λe=>b ⟨ow,e.2⟩)]
theorem V6{k:Nat}(h:¬(s.os.z k).k=0):du s k=du s (k+1):=by
 unfold du
 congr 2
 funext a
 unfold iw;by_cases b:a<k/\(s.os.z a).k=0
 .rw[if_pos b,if_pos ⟨ow,b.2⟩]
 rw[if_neg b,if_neg (λe=>b ⟨by
  have:¬a=k:=λc=>h (by rw[<-c];exact e.2);omega,e.2⟩)]
theorem Fs(k i:Nat)(o:Od)(j:Nat):((iw k i o).ls.z j).o=(o.ls.z j).o/\((iw k i o).ls.z j).l=(o.ls.z j).l/\((iw k i o).ls.z j).b=(o.ls.z j).b:=by
 unfold iw
 split
 .show((if j<o.ls.n then y9 (o.ls.z j) else o.ls.z j).o=_)/\((if j<o.ls.n then y9 (o.ls.z j) else o.ls.z j).l=_)/\((if j<o.ls.n then y9 (o.ls.z j) else o.ls.z j).b=_)
  split<;>exact⟨rfl,rfl,rfl⟩
 exact⟨rfl,rfl,rfl⟩
theorem af9{o a:Od}(k i:Nat)(h:a.k=o.k/\a.ls.n=o.ls.n/\∀j,j<a.ls.n->a.ls.z j=o.ls.z j):(iw k i a).k=(iw k i o).k/\(iw k i a).ls.n=(iw k i o).ls.n/\∀j,j<(iw k i a).ls.n->(iw k i a).ls.z j=(iw k i o).ls.z j:=by
 unfold iw;by_cases c:i<k/\o.k=0
 .rw[if_pos c,if_pos ⟨c.1,h.1.trans c.2⟩];refine⟨rfl,h.2.1,λj d => ?_⟩;show(if j<a.ls.n then y9 (a.ls.z j) else a.ls.z j)=if j<o.ls.n then y9 (o.ls.z j) else o.ls.z j;have b:j<a.ls.n:=d;rw[if_pos b,if_pos ow,h.2.2 j b]
 rw[if_neg c,if_neg (λe=>c ⟨e.1,h.1.symm.trans e.2⟩)];exact h
theorem Ni(h:af x s)(k:Nat):af (du x k) (du s k):=
 ⟨h.on,⟨h.os.1,λi hi=>af9 k i (h.os.2 i hi)⟩,h.hs,h.ms,h.si,h.so,h.sf⟩
theorem Ll(r:am p s){k:Nat}(hi:i<s.os.n)(d:j<(s.os.z i).ls.n)(c:i<k/\(s.os.z i).k=0):(iw k i (s.os.z i)).k=1/\((s.os.z i).ls.z j).b=0/\((s.os.z i).ls.z j).n=0/\keptS s.hs.z i j s.hs.n=0/\((iw k i (s.os.z i)).ls.z j).n=((s.os.z i).ls.z j).l:=by
 have w:=r.orders i hi;unfold cp at w;rw[Xxq] at w;have a:dh (s.os.z i).k ((s.os.z i).ls.z j) (keptS s.hs.z i j s.hs.n)=false:=dv w.2 j d;unfold dh at a;rw[if_pos c.2] at a;simp only[Xxq,Bool.not_eq_false',beq_iff_eq] at a;unfold iw;rw[if_pos c];refine⟨rfl,a.1.1,a.1.2,a.2,?_⟩;show(if j<(s.os.z i).ls.n then y9 ((s.os.z i).ls.z j) else(s.os.z i).ls.z j).n=_;rw[if_pos d];show((s.os.z i).ls.z j).l-((s.os.z i).ls.z j).b=_;omega
theorem agb(r:am p s)(k:Nat):cu p (du s k):=by
 have f:=r.fm;refine⟨f.sh,f.sh0,f.os4,f.ms8,λi hi => ?_,λi hi => ?_,λi hi j hj => ?_,f.hold,λi hi => ?_,f.move,f.sin,f.son,f.sfn,f.sib,f.sob,f.sfb⟩
 .show 1<=(iw k i (s.os.z i)).ls.n/\(iw k i (s.os.z i)).ls.n<=3;rw[Di];exact f.lns i hi
 .show 0<=(iw k i (s.os.z i)).k/\(iw k i (s.os.z i)).k<=2;unfold iw
  split
  .exact⟨(dc:(0:Int)<=1),(dc:(1:Int)<=2)⟩
  exact f.kind i hi
 .show mq p ((iw k i (s.os.z i)).ls.z j)=false;have a:j<(s.os.z i).ls.n:=alj;by_cases c:i<k/\(s.os.z i).k=0
  .have e:=Ll r hi a c;have g:=Fs k i (s.os.z i) j;obtain⟨b1,b2,b3,b4⟩:=fi (f.line i hi j a);exact abu
  unfold iw;rw[if_neg c];exact f.line i hi j a
 have h:=je (f.home i hi);refine sp h.1 ⟨h.2.1.1,?_⟩ h.2.2;show _<(iw k _ (s.os.z _)).ls.n;rw[Di];exact h.2.1.2
theorem ajq(s:St)(k b g:Nat):aq (du s k) b g=aq s b g:=by
 unfold aq;rw[ui (x:=du s k) (s:=s) (λj _=>rfl) (λj _=>(Fs k _ _ _).1)];rw[rm (x:=du s k) (s:=s) (λj _=>rfl)]
 rfl
theorem ajr(r:am p s)(k:Nat):am p (du s k):=by
 refine⟨agb r k,λg m => ?_,λi hi => ?_⟩
 .obtain⟨a1,f⟩:=mv (r.goods g m);exact ut a1 λb l=>by rw[ajq];exact f b l
 have a:i<s.os.n:=hi;by_cases c:i<k/\(s.os.z i).k=0;rotate_left
 .have e:(du s k).os.z i=s.os.z i:=if_neg c;have w:=r.orders i a;unfold cp at w ⊢;rw[e];exact w
 have o:=(r.fm.lns i a).1;have e0:=Ll r a (j:=0) ow c;unfold cp;rw[Xxq];constructor
 .have:aw ((du s k).os.z i).ls.n (λj=>kx (((du s k).os.z i).ls.z j))=true:=by
   refine ir (k:=0) ?_ ?_
   .show 0<(iw k i (s.os.z i)).ls.n;rw[Di];omega
   show kx ((iw k i (s.os.z i)).ls.z 0)=true;have g:=Fs k i (s.os.z i) 0;obtain⟨b1,b2,b3,b4⟩:=fi (r.fm.line i a 0 ow);unfold kx;rw[Bool.not_eq_true',beq_eq_false_iff_ne];omega
  rw[this];simp
 refine dj λj hj => ?_;have d:j<(s.os.z i).ls.n:=alj;have e:=Ll r a d c;have g:=Fs k i (s.os.z i) j;show dh (iw k i (s.os.z i)).k ((iw k i (s.os.z i)).ls.z j) (keptS s.hs.z i j s.hs.n)=false;unfold dh;rw[e.1,if_neg dc,if_neg dc,Bool.not_eq_false',beq_iff_eq];omega
def xo(s:St)(a b:Nat):Int:=if ((du s s.os.n).os.z a).k=1 then(((du s s.os.n).os.z a).ls.z b).n else 0
def Cs(s:St)(a:Nat):Nat:=(s.os.z a).ls.n
def nz(p:Pl)(s x:St):Prop:=jc p (-1) (xo s) (Cs s) (du s s.os.n) s.os.n x
def J4(p:Pl)(s x:St):Prop:=(ag p s=0->nz p s x)/\(¬ag p s=0->J2 x)
theorem Ak(r:am p s):QIn p (-1) (xo s) (du s s.os.n):=by
 have c:=ajr r s.os.n;refine⟨c,λa b d e => ?_,Or.inl rfl⟩;unfold xo;have q:=Ct c d e;by_cases h:((du s s.os.n).os.z a).k=1
 .rw[if_pos h];exact⟨q.1,Or.inr ⟨h,Int.le_refl _⟩⟩
 rw[if_neg h];exact⟨Int.le_refl _,Or.inl rfl⟩
theorem rj(s:St)(a:Nat):Cs s a=((du s s.os.n).os.z a).ls.n:=(Di _ _ _).symm
theorem nz.pos(r:am p s)(h:nz p s x):Pos p (-1) (xo s) (du s s.os.n) s.os.n 0 x:=jc.pos (Ak r) (λa _=>rj s a) nlr h
theorem nz.same(r:am p s)(h:nz p s x)(k:nz p s y):af x y:=jc.same (Ak r) (λa _=>rj s a) nlr k h
theorem J4.same(a:J4 p s x)(b:J4 p s y):af x y:=by
 by_cases h:ag p s=0
 .exact(a.1 h).same (et h) (b.1 h)
 exact Kv (a.2 h) (b.2 h)
def Nj(p:Pl)(s:St):St:=aev p (-1) (xo s) (Cs s) s.os.n (du s s.os.n)
theorem Lk(r:am p s):nz p s (Nj p s):=P0 (Ak r) (λa _=>rj s a) nlr
theorem J4.act(h:J4 p s x):jb (ag p s) (Nj p s) x:=⟨λe=>(h.1 e).same (et e) (Lk (et e)),h.2⟩
theorem ajp(r:am p s)(e:af x s):af (Nj p x) (Nj p s):=by
 have l:=e.right r;have d:=e.os.1;have k:=Ni e s.os.n;have i:du x x.os.n=du x s.os.n:=by rw[d]
 have h:jc p (-1) (xo s) (Cs s) (du s s.os.n) s.os.n (Nj p x):=by
  have f:=Lk l;unfold nz at f;rw[i,d] at f;refine jc.base k (λa _=>rj s a) (λa g => ?_) (λa b g j => ?_) nlr f
  .exact(e.os.2 a (by rw[d];exact g)).2.1
  unfold xo;rw[i];have o:=k.os.2 a (by show a<x.os.n;rw[d];exact g);rw[o.1];by_cases c:((du s s.os.n).os.z a).k=1
  .rw[if_pos c,if_pos c,o.2.2 b (by rw[o.2.1];exact j)]
  rw[if_neg c,if_neg c]
 exact nz.same r h (Lk r)
theorem am.bound(r:am p s):s.os.n<=1000/\s.ms.n<=1000/\∀i,i<s.os.n->(s.os.z i).ls.n<=1000 :=
 ⟨Qzx r.fm.os4 dc,Qzx r.fm.ms8 dc,λi hi=>Qzx (r.fm.lns i hi).2 dc⟩
theorem aga(r:am p s):am p (Nj p s):=((Lk r).pos r).al.r
def cz(z:Nat->Hd):Nat->List Hd
 | 0=>[]
 | k+1=>z k :: cz z k
def io(z:Nat->Hd)(i:Nat)(d:Int)(j:Nat):Hd:=if j=i then jl (z j) d else z j
def mt(f:Hd->Bool):Nat->Int->(Nat->Hd)->Nat->Hd
 | 0,_,z=>z
 | i+1,m,z=>if f (z i) then mt f i (m-min m (z i).n) (io z i (min m (z i).n)) else mt f i m z
def i8(f:Hd->Bool):Int->List Hd->List Hd
 | _,[]=>[]
 | m,h :: R=>if f h then jl h (min m h.n) :: i8 f (m-min m h.n) R else h :: i8 f m R
def mx(f:Hd->Bool):Int->List Hd->Int->Int->Int
 | _,[],_,_=>0
 | m,h :: R,o,l=>if f h then(if h.o=o/\h.l=l then min m h.n else 0)+mx f (m-min m h.n) R o l else mx f m R o l
def wv(f:Hd->Bool):Int->List Hd->Int
 | m,[]=>m
 | m,h :: R=>if f h then wv f (m-min m h.n) R else wv f m R
def fl(P:Hd->Bool):List Hd->Int
 | []=>0
 | h :: R=>fl P R+if P h then h.n else 0
def vd(x:Hd):Bool:=x.n==0
def flt(L:List Hd):List Hd:=L.filter (λx => !vd x)
def Nd(f:Hd->Bool):List Hd->List Hd
 | []=>[]
 | h :: R=>if f h then(if h.n=1 then R else jl h 1 :: R) else h :: Nd f R
def ld(f:Hd->Bool)(z:Nat->Hd):Nat->Option Nat
 | 0=>none
 | k+1=>if f (z k) then some k else ld f z k
theorem Nk(z:Nat->Hd):∀n,cz z n=((List.range n).map z).reverse
 | 0=>rfl
 | n+1=>by rw[List.range_succ,List.map_append,List.reverse_append,<-Nk z n];rfl
theorem Qa(z:Nat->Hd):∀n,(cz z n).length=n
 | 0=>rfl
 | n+1=>by show(cz z n).length+1=_;rw[Qa z n]
theorem rd{z z':Nat->Hd}:∀{n:Nat},(∀j,j<n->z j=z' j)->cz z n=cz z' n
 | 0,_=>rfl
 | n+1,h=>by show z n :: cz z n=z' n :: cz z' n;rw[h n ow,rd λj a=>h j ow]
theorem aea{z z':Nat->Hd}:∀{n:Nat},cz z n=cz z' n->∀j,j<n->z j=z' j
 | 0,_,j,hj=>absurd hj ow
 | n+1,h,j,hj=>by
  have a:z n :: cz z n=z' n :: cz z' n:=h;rw[List.cons.injEq] at a;by_cases e:j=n
  .rw[e];exact a.1
  exact aea a.2 j ow
theorem Bv{z':Nat->Hd}{a:Nat}(h:cz z n=cz z' a):n=a/\∀j,j<n->z j=z' j:=by
 have e:n=a:=by rw[<-Qa z n,h,Qa]
 subst e;exact⟨rfl,aea h⟩
theorem Bz{z:Nat->Hd}:∀{n:Nat} {x:Hd},x∈cz z n->∃j,j<n/\z j=x
 | 0,x,h=>by cases h
 | n+1,x,h=>by
  rcases List.mem_cons.1 h with e|e
  .exact⟨n,ow,e.symm⟩
  obtain⟨j,a,e⟩:=Bz e;exact⟨j,ow,e⟩
theorem Zu{z:Nat->Hd}:∀{n j:Nat},j<n->z j∈cz z n
 | n+1,j,h=>by
  by_cases e:j=n
  .rw[e];exact List.mem_cons_self
  exact List.mem_cons_of_mem _ (Zu ow)
theorem Fy(f:Hd->Bool):∀(i:Nat) (m:Int) (z:Nat->Hd) (k:Nat),i<=k->mt f i m z k=z k
 | 0,_,_,_,_=>rfl
 | i+1,m,z,k,h=>by
  show(if f (z i) then mt f i (m-min m (z i).n) (io z i (min m (z i).n)) else mt f i m z) k=z k
  split
  .rw[Fy f i _ _ k ow];exact if_neg ow
  exact Fy f i _ _ k ow
theorem P2(f:Hd->Bool):∀(i:Nat) (m:Int) (z:Nat->Hd),cz (mt f i m z) i=i8 f m (cz z i)
 | 0,_,_=>rfl
 | i+1,m,z=>by
  show mt f (i+1) m z i :: cz (mt f (i+1) m z) i=if f (z i) then _ else _;have e:mt f (i+1) m z=if f (z i) then mt f i (m-min m (z i).n) (io z i (min m (z i).n)) else mt f i m z:=rfl;rw[e];by_cases h:f (z i)=true
  .rw[if_pos h,if_pos h,P2 f i,Fy f i _ _ i nlr];have a:io z i (min m (z i).n) i=jl (z i) (min m (z i).n):=if_pos rfl;rw[a,rd (z:=io z i (min m (z i).n)) (z':=z) λj b=>if_neg ow]
  rw[if_neg h,if_neg h,P2 f i,Fy f i _ _ i nlr]
theorem Rl(x:Hd):jl x 0=x:=by unfold jl;rw[Int.sub_zero]
theorem Mz(f:Hd->Bool):∀(i:Nat) (z:Nat->Hd),(∀j,j<i->0<=(z j).n)->mt f i 0 z=z
 | 0,_,_=>rfl
 | i+1,z,h=>by
  show(if f (z i) then mt f i (0-min 0 (z i).n) (io z i (min 0 (z i).n)) else mt f i 0 z)=z;have a:min 0 (z i).n=0:=Int.min_eq_left (h i ow);have e:io z i 0=z:=by
   funext j
   unfold io;rw[Rl]
   split<;>rfl
  rw[a,e,Int.sub_zero,Mz f i z λj b=>h j ow]
  split<;>rfl
theorem Kb(f:Hd->Bool):∀(i:Nat) (m:Int) (z:Nat->Hd),0<=m->(∀j,j<i->0<=(z j).n)->∀k,((mt f i m z k).o=(z k).o/\(mt f i m z k).l=(z k).l/\(mt f i m z k).b=(z k).b)/\(k<i->0<=(mt f i m z k).n)/\(mt f i m z k).n<=(z k).n
 | 0,_,_,_,_,_=>⟨⟨rfl,rfl,rfl⟩,λh=>absurd h ow,Int.le_refl _⟩
 | i+1,m,z,hm,hz,k=>by
  have e:mt f (i+1) m z=if f (z i) then mt f i (m-min m (z i).n) (io z i (min m (z i).n)) else mt f i m z:=rfl;rw[e];have hi:=hz i ow;by_cases h:f (z i)=true
  .rw[if_pos h];have d:∀j,¬j=i->io z i (min m (z i).n) j=z j:=λj c=>if_neg c;have hs:io z i (min m (z i).n) i=jl (z i) (min m (z i).n):=if_pos rfl;have r:=Kb f i (m-min m (z i).n) (io z i (min m (z i).n)) ow (λj c=>by rw[d j ow];exact hz j ow) k;by_cases a:k=i
   .subst a;rw[Fy f k _ _ k nlr,hs];refine⟨⟨rfl,rfl,rfl⟩,λ_ => ?_,?_⟩
    .show 0<=(z k).n-min m (z k).n;omega
    show(z k).n-min m (z k).n<=(z k).n;omega
   rw[d k a] at r;exact⟨r.1,λg=>r.2.1 ow,r.2.2⟩
  rw[if_neg h];have r:=Kb f i m z hm (λj c=>hz j ow) k;by_cases a:k=i
  .subst a;rw[Fy f k _ _ k nlr];exact⟨⟨rfl,rfl,rfl⟩,λ_=>hi,Int.le_refl _⟩
  exact⟨r.1,λg=>r.2.1 ow,r.2.2⟩
def Qk(f:Hd->Bool):Prop:=∀h d,f (jl h d)=f h
def yu(R:List Hd):Prop:=∀h,h∈R->0<=h.n
theorem yu.tail{R:List Hd}(p:yu (h :: R)):yu R:=λx hx=>p x (List.mem_cons_of_mem _ hx)
theorem yu.head{R:List Hd}(p:yu (h :: R)):0<=h.n:=p h List.mem_cons_self
theorem Dl{P:Hd->Bool}:∀{R:List Hd},yu R->0<=fl P R
 | [],_=>Int.le_refl _
 | h :: R,p=>by
  have:=Dl (P:=P) p.tail;have:=p.head;show 0<=fl P R+if P h then h.n else 0
  split<;>omega
theorem xz(P:Hd->Bool):∀(R:List Hd),fl P (flt R)=fl P R
 | []=>rfl
 | h :: R=>by
  have a:=xz P R;unfold flt at a ⊢;rw[List.filter_cons];cases b:vd h
  .rw[if_pos (show(!false)=true from rfl)];show fl P _+_=fl P R+_;rw[a]
  rw[if_neg dc,a];have c:h.n=0:=by unfold vd at b;simpa using b
  show _=fl P R+if P h then h.n else 0;rw[c]
  split<;>omega
theorem wo{f:Hd->Bool}(g:Qk f):∀{R:List Hd} {m:Int},yu R->0<=m->fl f (i8 f m R)=fl f R-min m (fl f R)/\wv f m R=m-min m (fl f R)
 | [],m,_,hm=>by
  show(0:Int)=0-min m 0/\m=m-min m 0;omega
 | h :: R,m,p,hm=>by
  have i:=p.head;have j:=Dl (P:=f) p.tail;by_cases c:f h=true
  .have e:i8 f m (h :: R)=jl h (min m h.n) :: i8 f (m-min m h.n) R:=if_pos c;have b:wv f m (h :: R)=wv f (m-min m h.n) R:=if_pos c;have d:fl f (h :: R)=fl f R+h.n:=agt;have a:=wo g (R:=R) (m:=m-min m h.n) p.tail ow;rw[e,b,d,a.2];have e4:fl f (jl h (min m h.n) :: i8 f (m-min m h.n) R)=fl f (i8 f (m-min m h.n) R)+(h.n-min m h.n):=by show _+(if f _ then _ else _)=_;rw[g,if_pos c];rfl
   rw[e4,a.1];omega
  have e:i8 f m (h :: R)=h :: i8 f m R:=if_neg c;have b:wv f m (h :: R)=wv f m R:=if_neg c;have d:fl f (h :: R)=fl f R:=Xe;have a:=wo g (R:=R) (m:=m) p.tail hm;have e4:fl f (h :: i8 f m R)=fl f (i8 f m R):=Xe;rw[e,b,d,e4];exact a
theorem Fv{f P:Hd->Bool}(hd:∀h,P h=true->f h=false)(a:Qk P):∀(R:List Hd) (m:Int),fl P (i8 f m R)=fl P R
 | [],_=>rfl
 | h :: R,m=>by
  by_cases c:f h=true
  .have e:i8 f m (h :: R)=jl h (min m h.n) :: i8 f (m-min m h.n) R:=if_pos c;have b:P h=false:=by
    cases b:P h
    .rfl
    rw[hd h b] at c;cases c
   rw[e];show fl P _+(if P (jl h _) then _ else _)=fl P R+if P h then _ else _;rw[a,b,Fv hd a R]
   rfl
  have e:i8 f m (h :: R)=h :: i8 f m R:=if_neg c;rw[e];show fl P _+_=fl P R+_;rw[Fv hd a R]
def Da(o l:Int)(h:Hd):Bool:=(h.o==o)&&(h.l==l)
theorem Db{o l:Int}:Da o l h=true↔h.o=o/\h.l=l:=by unfold Da;simp
theorem Nu(f:Hd->Bool)(o l:Int):∀(R:List Hd) (m:Int),fl (Da o l) (i8 f m R)=fl (Da o l) R-mx f m R o l
 | [],_=>rfl
 | h :: R,m=>by
  by_cases c:f h=true
  .have e:i8 f m (h :: R)=jl h (min m h.n) :: i8 f (m-min m h.n) R:=if_pos c;have a:mx f m (h :: R) o l=(if h.o=o/\h.l=l then min m h.n else 0)+mx f (m-min m h.n) R o l:=if_pos c;rw[e,a];show fl _ _+(if Da o l (jl h _) then h.n-min m h.n else 0)=fl _ R+(if Da o l h then h.n else 0)-_;rw[Nu f o l R];have b:Da o l (jl h (min m h.n))=Da o l h:=rfl;rw[b];by_cases k:h.o=o/\h.l=l
   .rw[if_pos (Db.2 k),if_pos (Db.2 k),if_pos k];omega
   rw[if_neg (λe=>k (Db.1 e)),if_neg (λe=>k (Db.1 e)),if_neg k];omega
  have e:i8 f m (h :: R)=h :: i8 f m R:=if_neg c;have a:mx f m (h :: R) o l=mx f m R o l:=if_neg c;rw[e,a];show fl _ _+_=fl _ R+_-_;rw[Nu f o l R];omega
theorem Oi(f:Hd->Bool)(o l:Int):∀{R:List Hd} {m:Int},yu R->0<=m->0<=mx f m R o l
 | [],_,_,_=>Int.le_refl _
 | h :: R,m,p,hm=>by
  have a:=p.head;show 0<=if f h then _ else _
  split
  .have:=Oi f o l (R:=R) (m:=m-min m h.n) p.tail ow
   split<;>omega
  exact Oi f o l p.tail hm
theorem Eb(f:Hd->Bool)(o l:Int):∀{R:List Hd},yu R->mx f 0 R o l=0
 | [],_=>rfl
 | h :: R,p=>by
  have a:min 0 h.n=0:=Int.min_eq_left p.head;show(if f h then(if h.o=o/\h.l=l then min 0 h.n else 0)+mx f (0-min 0 h.n) R o l else mx f 0 R o l)=0;rw[a,Int.sub_zero,Eb f o l p.tail]
  split
  .split<;>rfl
  rfl
theorem Hv(f:Hd->Bool):∀{R:List Hd},yu R->i8 f 0 R=R
 | [],_=>rfl
 | h :: R,p=>by
  have a:min 0 h.n=0:=Int.min_eq_left p.head;show(if f h then jl h (min 0 h.n) :: i8 f (0-min 0 h.n) R else h :: i8 f 0 R)=h :: R;rw[a,Int.sub_zero,Hv f p.tail,Rl]
  split<;>rfl
theorem Gf(f:Hd->Bool):∀{R:List Hd} {m:Int},yu R->0<=m->yu (i8 f m R)
 | [],_,_,_=>λx hx=>by cases hx
 | h :: R,m,p,hm=>by
  have a:=p.head;by_cases c:f h=true
  .have e:i8 f m (h :: R)=jl h (min m h.n) :: i8 f (m-min m h.n) R:=if_pos c;rw[e];intro x hx;rcases List.mem_cons.1 hx with rfl|hx
   .show 0<=h.n-min m h.n;omega
   exact Gf f p.tail ow x hx
  have e:i8 f m (h :: R)=h :: i8 f m R:=if_neg c;rw[e];intro x hx;rcases List.mem_cons.1 hx with rfl|hx
  .exact a
  exact Gf f p.tail hm x hx
theorem Oo{R:List Hd}(h:∀x,x∈R->1<=x.n):flt R=R:=by
 unfold flt;rw[List.filter_eq_self];intro x hx;have:=h x hx;unfold vd;simp;omega
theorem Cj{R:List Hd}(c:1<=h.n):flt (h :: R)=h :: flt R:=by
 unfold flt;rw[List.filter_cons,if_pos];unfold vd;simp;omega
theorem Mf{R:List Hd}(c:h.n=0):flt (h :: R)=flt R:=by
 unfold flt;rw[List.filter_cons,if_neg];unfold vd;simp[c]
theorem Ov{f:Hd->Bool}(j:Qk f):∀{R:List Hd} {m:Int},(∀h,h∈R->1<=h.n)->0<=m->m+1<=fl f R->Nd f (flt (i8 f m R))=flt (i8 f (m+1) R)/\∃a,(flt (i8 f m R)).find? f=some a/\∀o l,mx f (m+1) R o l=mx f m R o l+if a.o=o/\a.l=l then 1 else 0
 | [],m,_,_,hs=>absurd hs (by show ¬m+1<=0;omega)
 | h :: R,m,p,hm,hs=>by
  have s:=p h List.mem_cons_self;have b:∀x,x∈R->1<=x.n:=λx hx=>p x (List.mem_cons_of_mem _ hx);have u:yu R:=λx hx=>by have:=b x hx;omega
  by_cases c:f h=true;rotate_left
  .have e:∀k,i8 f k (h :: R)=h :: i8 f k R:=λk=>if_neg c;have eq:∀k o l,mx f k (h :: R) o l=mx f k R o l:=λk o l=>if_neg c;have r:fl f (h :: R)=fl f R:=Xe;rw[r] at hs;have d:=Ov j (R:=R) (m:=m) b hm hs;rw[e,e,Cj s,Cj s];refine⟨?_,?_⟩
   .show(if f h then _ else h :: Nd f _)=_;rw[if_neg c,d.1]
   obtain⟨a,a1,q⟩:=d.2;refine⟨a,?_,λo l=>by rw[eq,eq,q]⟩;rw[List.find?_cons,show f h=false by simpa using c];exact a1
  have e:∀k,i8 f k (h :: R)=jl h (min k h.n) :: i8 f (k-min k h.n) R:=λk=>if_pos c;have eq:∀k o l,mx f k (h :: R) o l=(if h.o=o/\h.l=l then min k h.n else 0)+mx f (k-min k h.n) R o l:=λk o l=>if_pos c;have r:fl f (h :: R)=fl f R+h.n:=agt;rw[r] at hs;by_cases k:m<h.n;rotate_left
  .have g:min m h.n=h.n:=ow;have i:min (m+1) h.n=h.n:=ow;have d:=Ov j (R:=R) (m:=m-h.n) b ow ow;have e0:∀k,min k h.n=h.n->flt (i8 f k (h :: R))=flt (i8 f (k-h.n) R):=λk v=>by
    rw[e,v,Mf (by show h.n-h.n=0;omega)]
   rw[e0 m g,e0 (m+1) i,show m+1-h.n=m-h.n+1 by omega];refine⟨d.1,?_⟩;obtain⟨a,a1,q⟩:=d.2;refine⟨a,a1,λo l => ?_⟩;rw[eq,eq,g,i,show m+1-h.n=m-h.n+1 by omega,q];omega
  have g:min m h.n=m:=ow;have i:min (m+1) h.n=m+1:=ow;have e0:flt (i8 f m (h :: R))=jl h m :: R:=by
   rw[e,g,Int.sub_self,Hv f u,Cj (by show 1<=h.n-m;omega),Oo b]
  refine⟨?_,jl h m,?_,λo l => ?_⟩
  .rw[e0,e,i,Int.sub_self,Hv f u];show(if f (jl h m) then(if (jl h m).n=1 then R else jl (jl h m) 1 :: R) else _)=_;rw[j,if_pos c];by_cases t:h.n-m=1
   .rw[if_pos (show(jl h m).n=1 from t),Mf (by show h.n-(m+1)=0;omega),Oo b]
   rw[if_neg (show ¬(jl h m).n=1 from t),Cj (by show 1<=h.n-(m+1);omega),Oo b];have:jl (jl h m) 1=jl h (m+1):=by unfold jl;rw[show h.n-m-1=h.n-(m+1) by omega]
   rw[this]
  .rw[e0,List.find?_cons,j,c]
  rw[eq,eq,g,i,Int.sub_self,Int.sub_self];show(if h.o=o/\h.l=l then m+1 else 0)+_=(if h.o=o/\h.l=l then m else 0)+_+if h.o=o/\h.l=l then 1 else 0
  split<;>omega
theorem Vr(f:Hd->Bool)(z:Nat->Hd):∀n,(cz z n).find? f=(ld f z n).map z
 | 0=>rfl
 | n+1=>by
  show(z n :: cz z n).find? f=(if f (z n) then some n else ld f z n).map z;rw[List.find?_cons];cases h:f (z n)
  .rw[if_neg dc];exact Vr f z n
  rw[if_pos rfl];rfl
theorem F2{f:Hd->Bool}{z:Nat->Hd}:∀{n k:Nat},ld f z n=some k->k<n/\f (z k)=true
 | 0,k,h=>by cases h
 | n+1,k,h=>by
  have a:(if f (z n) then some n else ld f z n)=some k:=h;by_cases c:f (z n)=true
  .rw[if_pos c] at a;cases a;exact⟨ow,c⟩
  rw[if_neg c] at a;have:=F2 a;exact⟨ow,this.2⟩
theorem Vs{f:Hd->Bool}{z:Nat->Hd}:∀{n:Nat},ld f z n=none->∀k,k<n->f (z k)=false
 | 0,_,k,h=>absurd h ow
 | n+1,h,k,hk=>by
  have a:(if f (z n) then some n else ld f z n)=none:=h;by_cases c:f (z n)=true
  .rw[if_pos c] at a;cases a
  rw[if_neg c] at a;by_cases e:k=n
  .rw[e];simpa using c
  exact Vs a k ow
theorem Zl{f:Hd->Bool}{z:Nat->Hd}:∀{n k:Nat},ld f z n=some k->¬(z k).n=1->cz (io z k 1) n=Nd f (cz z n)
 | 0,k,h,_=>by cases h
 | n+1,k,h,hn=>by
  have a:(if f (z n) then some n else ld f z n)=some k:=h;show io z k 1 n :: cz (io z k 1) n=if f (z n) then(if (z n).n=1 then cz z n else jl (z n) 1 :: cz z n) else z n :: Nd f (cz z n);by_cases c:f (z n)=true
  .rw[if_pos c] at a;cases a;rw[if_pos c,if_neg hn,rd (z:=io z n 1) (z':=z) λj b=>if_neg ow];have e:io z n 1 n=jl (z n) 1:=if_pos rfl;rw[e]
  rw[if_neg c] at a ⊢;have:=F2 a;rw[Zl a hn];have e:io z k 1 n=z n:=if_neg ow;rw[e]
theorem Zk{f:Hd->Bool}{z:Nat->Hd}:∀{n k:Nat},ld f z (n+1)=some k->(z k).n=1->cz (gu z k) n=Nd f (cz z (n+1))
 | n,k,h,hn=>by
  have a:(if f (z n) then some n else ld f z n)=some k:=h;show cz (gu z k) n=if f (z n) then(if (z n).n=1 then cz z n else jl (z n) 1 :: cz z n) else z n :: Nd f (cz z n);by_cases c:f (z n)=true
  .rw[if_pos c] at a;cases a;rw[if_pos c,if_pos hn];exact rd λj b=>if_pos b
  rw[if_neg c] at a ⊢;have l:=F2 a
  match n,a,l with
  | q+1,a,l =>
   rw[<-Zk a hn];show gu z k q :: cz (gu z k) q=_;have e:gu z k q=z (q+1):=if_neg ow;rw[e]
open Go.Shelf Go.Sort
def gy(p:Pl)(s:St)(order:Int):Int:=if ag p s=0 then(if inB order 0 ((s.os.n:Int)-1) then(if (s.os.z order.toNat).k=2 then 6 else 0) else 4) else ag p s
theorem Bd{order:Int}(h:¬ag p s=0):gy p s order=ag p s:=by unfold gy;rw[if_neg h]
theorem F8{order:Int}(h:ag p s=0)(a:inB order 0 ((s.os.n:Int)-1)=false):gy p s order=4:=by unfold gy;rw[if_pos h,a];rfl
theorem F7{order:Int}(h:ag p s=0)(a:inB order 0 ((s.os.n:Int)-1)=true)(b:(s.os.z order.toNat).k=2):gy p s order=6:=by unfold gy;rw[if_pos h,a,if_pos b];rfl
theorem Qx{order:Int}(h:ag p s=0)(a:inB order 0 ((s.os.n:Int)-1)=true)(b:¬(s.os.z order.toNat).k=2):gy p s order=0:=by unfold gy;rw[if_pos h,a,if_neg b];rfl
def ew(s:St)(o:Nat):St:=fp (di (withHolds s (eu s.hs (λx=>x.o==(o:Int)))) o 2) o (s.os.z o).ls.n
theorem tw(s:St)(o i:Nat):(ew s o).os.z i=if i=o then ⟨2,Ag (s.os.z i).ls (s.os.z o).ls.n⟩ else s.os.z i:=by
 show(if i=o then(⟨(if i=o then(⟨2,(s.os.z i).ls⟩:Od) else s.os.z i).k,Ag (if i=o then(⟨2,(s.os.z i).ls⟩:Od) else s.os.z i).ls (s.os.z o).ls.n⟩:Od) else(if i=o then(⟨2,(s.os.z i).ls⟩:Od) else s.os.z i))=_;by_cases h:i=o
 .rw[if_pos h,if_pos h,if_pos h]
 rw[if_neg h,if_neg h,if_neg h]
theorem Ip(h:af x s){o:Nat}(f:o<x.os.n):af (ew x o) (ew s o):=by
 have g:=h.os.2 o f;have d:=ae8 h.hs.1 h.hs.2 (λy=>y.o==(o:Int));refine⟨h.on,⟨h.os.1,λi hi => ?_⟩,⟨d.1,λj _=>by show(eu x.hs _).z j=(eu s.hs _).z j;rw[d.2]⟩,h.ms,h.si,h.so,h.sf⟩;have e:=h.os.2 i hi;rw[tw,tw];by_cases a:i=o
 .subst a;rw[if_pos rfl,if_pos rfl];refine⟨rfl,e.2.1,λj c => ?_⟩;show(if j<(x.os.z i).ls.n then y9 ((x.os.z i).ls.z j) else(x.os.z i).ls.z j)=if j<(s.os.z i).ls.n then y9 ((s.os.z i).ls.z j) else(s.os.z i).ls.z j;have b:j<(x.os.z i).ls.n:=c;rw[if_pos b,if_pos ow,e.2.2 j b]
 rw[if_neg a,if_neg a];exact e
theorem aeh(p:Pl)(s:St)(order:Int)(w:World)(hp:p.At w)(hs:s.At w):
  Calls prog 93 #[p.val,s.val,.int .i64 order] w λe w'=>∃x:St,e = .returned (.tuple #[x.val,.int .i64 (gy p s order)])/\x.At w'/\jb (gy p s order) (ew s order.toNat) x/\(gy p s order=0->ah w.heap.size w' x)/\Bw w w':=by
 obtain⟨W0,hW,L,X0,K0,Z0⟩:∃W,((((w.alloc (.cells #[.slice p.ab p.nb p.cb,.slice p.sa p.ns p.cs] 25)).alloc (.cells s.cells 36)).alloc (.cells #[.int .i64 order] 3)).alloc (.cells #[.slice .none 0 0,.slice .none 0 0,.slice .none 0 0,.slice .none 0 0,.slice .none 0 0,.slice .none 0 0,.slice .none 0 0] 36))=W/\Bw w W/\jj W w.heap.size (w.heap.size+1) p s/\Blk W (w.heap.size+2) 3 1 (λ_ => .int .i64 order)/\Blk W (w.heap.size+3) 36 7 (λ_ => .slice .none 0 0):=
  ⟨_,rfl,((dx _ _ _).alloc oq _).alloc oq _,((ku w p s _ _).below (brf.alloc nlr _)).below (brf.alloc nlr _),((Blk.mk' (cur:=#[.int .i64 order]) vq rfl).congr (λj B=>by match j,B with|0,_=>rfl)).alloc _,(Blk.mk' (cur:=#[.slice .none 0 0,.slice .none 0 0,.slice .none 0 0,.slice .none 0 0,.slice .none 0 0,.slice .none 0 0,.slice .none 0 0]) vq rfl).congr (λj B=>by match j,B with|0,_=>rfl|1,_=>rfl|2,_=>rfl|3,_=>rfl|4,_=>rfl|5,_=>rfl|6,_=>rfl)⟩
 have Y:Hid (∀G,Bw W0 G->jj G w.heap.size (w.heap.size+1) p s/\p.At G/\s.At G/\Bw w G/\Blk G (w.heap.size+3) 36 7 (λ_ => .slice .none 0 0)/\Blk G (w.heap.size+2) 3 1 (λ_ => .int .i64 order)):=λG h=>⟨X0.below h,(hp.below L).below h,(hs.below L).below h,L.trans (h.mono L.size),Z0.below h,K0.below h⟩;unfold St.cells at hW;have HW:=hid hW;have d8:=Z0.lt;have df:=hs.os.le;have az:=hs.os.cap;have de:=az;have a0:s.os.n<=maxLen:=Qzx df az;unfold maxLen at de;clear hW X0 Z0 K0 hp hs;unfold Pl.val St.val;go_enter func93,ntmps93;go_wp2_with fail;rw[HW.o];obtain⟨X,A,u,r,f,E⟩:=Y.o W0 brf;refine(l8 p s W0 A u).mono ?_;rintro e w1 ⟨rfl,hB⟩;clear X A u r f E HW;obtain⟨⟨⟨l1,d0,d1⟩,l2,c0,c1,c2,c3,c4,c5,c6⟩,A,u,r,f,E⟩:=Y.o w1 hB;have b0:=E.lt;have b1:w1.cell? ⟨w.heap.size+2,0,none⟩=some (.int .i64 order):=E.k 0;by_cases h0:ag p s=0;rotate_left
 .have HX:Hid (gy p s order=ag p s):=Bd h0;have ac:Hid (¬gy p s order=0):=atf;have g0:(ag p s !=0)=true:=qh;clear h0;clear A u E;obtain⟨zl,bn,bl,bp,zc1,bq,zc2,br,zc3,bs,zc4,bt,zc5,bu,bm⟩:=z7 f;go_wp2_with fail;exact mu results93 f r ow HX.o (λh=>ac.o (HX.o.trans h)) rfl rfl rfl
 have H0:=hid h0;have HF:Hid (cu p s):=(et h0).fm;rw[h0];clear h0;cases k1:inB order 0 ((s.os.n:Int)-1)
 .have HX:Hid (gy p s order=4):=F8 H0.o k1;have ac:Hid (¬gy p s order=0):=pr;exact au7
 have cy:=ar k1;obtain⟨o,rfl⟩:=Qzz cy.1;have ho:o<s.os.n:=ow;have q0:(0:Int)<=(o:Int):=ow;obtain⟨bo,oo,av,cx,z0,z1,c7⟩:=u.os.ods o ho;have ba:=hid av;rw[av] at c1;clear av z1 c7;by_cases U:(s.os.z o).k=2
 .have HX:Hid (gy p s (o:Int)=6):=F7 H0.o k1 U;have ac:Hid (¬gy p s (o:Int)=0):=pr;rw[U] at z0;clear U;exact au7
 have HX:Hid (gy p s (o:Int)=0):=Qx H0.o k1 U;have g2:((s.os.z o).k==2)=false:=by simpa using U
 clear U
 generalize (s.os.z o).k=KK at *
 have a7:Hid (Calls prog 127 #[s.val] w1 λe w'=>∃s':St,e = .returned s'.val/\af s' s/\ah w1.heap.size w' s'/\Bw w1 w'):=pv p s w1 u HF.o;have aa:=hid E;clear A u r f E;go_wp2_with(go_at_call 98;refine ap (im _ _ _ a0) ?_);rw[<-ba.o];refine Calls.mono a7.o ?_;rintro e w4 ⟨x0,rfl,hsame,aw,K⟩;clear a7 l1 d0 d1 l2 c0 c1 c2 c3 c4 c5 c6 z0 cx k1 g2 b0 b1 ba;obtain⟨W5,bi,J,K5⟩:=ab7 w4 x0;have ad:=hid bi;have i:=K.trans (J.mono K.size);have be:=hB.trans (i.mono hB.size);have S:=ah.below aw J;have Q:o<x0.os.n:=Nx;have bb:=hid hsame;have s2:W5.cell? ⟨w4.heap.size,2,none⟩=some (.slice x0.hs.a x0.hs.n x0.hs.c):=K5.k 2;have s1:=K5.lt;have HD:Hid (Calls prog 135 #[.slice x0.hs.a x0.hs.n x0.hs.c,.func (.func 136) #[] #[.pointer (some ⟨w.heap.size+1+1,0,none⟩)]] W5 λe w'=>e = .returned (.slice (eu x0.hs (λx=>x.o==(o:Int))).a (eu x0.hs (λx=>x.o==(o:Int))).n (eu x0.hs (λx=>x.o==(o:Int))).c)/\ah w1.heap.size w' (withHolds x0 (eu x0.hs (λx=>x.o==(o:Int))))/\Below w1.heap.size W5 w'/\(∀q t m g,t≠107->Blk W5 q t m g->Blk w' q t m g)):=
  aqg 136 #[.pointer (some ⟨w.heap.size+1+1,0,none⟩)] (λx=>x.o==(o:Int)) w1.heap.size x0 W5 i.size S (enters_of func136 ko rfl) (λx wz f=>by
   have au:=aa.o.lt;exact acw (w.heap.size+1+1) x o wz (Xzx au (Qzx i.size f.size)) ((f.cell (p:=⟨w.heap.size+2,0,none⟩) au).trans ((i.cell (p:=⟨w.heap.size+2,0,none⟩) au).trans (aa.o.k 0))))
 have a5:=qa4 be hB.size K.size i.size;have a9:=hid K5;rw[<-ad.o] at s1 s2;clear bi aw S K5 K J i be hsame hB;simp only[St.val];go_wp2_with fail;rw[ad.o];clear s1 s2 ad;refine HD.o.mono ?_;rintro e F ⟨rfl,ao,am,M⟩;have b7:Hid (∀h:Hs,h=eu x0.hs (λx=>x.o==(o:Int))->h.a=x0.hs.a/\h.c=x0.hs.c):=λh e=>by rw[e];exact⟨rfl,rfl⟩
 obtain⟨d,an⟩:∃d,eu x0.hs (λx=>x.o==(o:Int))=d:=⟨_,rfl⟩;have a8:=hid an;rw[an] at ao ⊢;clear HD an b7;obtain⟨e1,e2,e3,e4⟩:=a5.o;have T:=M _ _ _ _ dc a9.o;have ak:=e1.trans (am.mono e2);have n1:=T.lt;have n2:=T.frozen 2;have n3:=T.k 2;have D:=ao.box T 2 (.slice d.a d.n d.c);have K7:Blk (F.setCell ⟨w4.heap.size,2,none⟩ (.slice d.a d.n d.c)) w4.heap.size 36 7 (λj=>(withHolds x0 d).cells.getD j default):=(T.set 2 (.slice d.a d.n d.c)).congr (λj B=>by match j,B with|0,_=>rfl|1,_=>rfl|2,_=>rfl|3,_=>rfl|4,_=>rfl|5,_=>rfl|6,_=>rfl);have H:=ak.setCell (p:=⟨w4.heap.size,2,none⟩) S6 (.slice d.a d.n d.c);have c9:F.heap.size<=(F.setCell ⟨w4.heap.size,2,none⟩ (.slice d.a d.n d.c)).heap.size:=vq;have a6:=am.size;obtain⟨gO,g1,g2,g3⟩:=D.os.list Sn;have bd:x0.os.a=some ⟨gO,0,none⟩:=g1;have cv:¬gO=w4.heap.size:=Blk.ne2 g3 K7 dc;have bz:¬w4.heap.size=gO:=λe=>cv e.symm;have u1:=(K7.k 1);have bk:(F.setCell ⟨w4.heap.size,2,none⟩ (.slice d.a d.n d.c)).cell? ⟨w4.heap.size,1,none⟩=some (.slice x0.os.a x0.os.n x0.os.c):=u1;rw[bd] at bk;have u2:=g3.lt;have u3:=g3.frozen (o*2);have u4:=g3.cell (j:=o*2) (by show o*2<x0.os.n*2;omega)
 generalize (ke (withHolds x0 d).os.n (withHolds x0 d).os.z).getD (o*2) default=VV at u4
 have k8:=D.kind (o:=o) Q g1 2;have K8:=K7.other (a:=⟨gO,o*2,none⟩) bz (.int .i64 2);have al:=H.setCell (p:=⟨gO,o*2,none⟩) Sb (.int .i64 2);obtain⟨⟨-,-⟩,-,-,cw,-,ay⟩:=Y.o _ H;have u5:=ay.k 0;have u6:=ay.lt;have db:¬w.heap.size+2=gO:=by have:=aa.o.lt;omega
 have dt:¬gO=w.heap.size+2:=λe=>db e.symm;have dd:o<(di (withHolds x0 d) o 2).os.n:=Q;have b5:Hid (∀j,j<((di (withHolds x0 d) o 2).os.z o).ls.n->(0<=(((di (withHolds x0 d) o 2).os.z o).ls.z j).l/\(((di (withHolds x0 d) o 2).os.z o).ls.z j).l<=200)/\0<=(((di (withHolds x0 d) o 2).os.z o).ls.z j).b/\(((di (withHolds x0 d) o 2).os.z o).ls.z j).b<=200):=by
  show ∀j,j<((di (withHolds x0 d) o 2).os.z o).ls.n->_;rw[xv];intro j B;have e:=bb.o.os.2 o Q;have cz:j<(x0.os.z o).ls.n:=B;have hl:=fi (HF.o.line o ho j ow);show(0<=((x0.os.z o).ls.z j).l/\((x0.os.z o).ls.z j).l<=200)/\0<=((x0.os.z o).ls.z j).b/\((x0.os.z o).ls.z j).b<=200;rw[e.2.2 j cz];omega
 have V:Hid (ah w1.heap.size ((F.setCell ⟨w4.heap.size,2,none⟩ (.slice d.a d.n d.c)).setCell ⟨gO,o*2,none⟩ (.int .i64 2)) (di (withHolds x0 d) o 2)/\Blk ((F.setCell ⟨w4.heap.size,2,none⟩ (.slice d.a d.n d.c)).setCell ⟨gO,o*2,none⟩ (.int .i64 2)) w4.heap.size 36 7 (λj=>(withHolds x0 d).cells.getD j default)/\Bw W0 ((F.setCell ⟨w4.heap.size,2,none⟩ (.slice d.a d.n d.c)).setCell ⟨gO,o*2,none⟩ (.int .i64 2))/\w1.heap.size<=((F.setCell ⟨w4.heap.size,2,none⟩ (.slice d.a d.n d.c)).setCell ⟨gO,o*2,none⟩ (.int .i64 2)).heap.size):=⟨k8,K8,al,oq⟩;have b9:=hid g1;have v1:x0.os.n<=x0.os.c:=D.os.le;have v2:x0.os.c<=maxLen:=D.os.cap;unfold maxLen at v2;clear ao am M T ak D K7 H g1 bd g3 u1 k8 K8 al cw ay a9;go_wp2_with fail;refine(Y8 (di (withHolds x0 d) o 2) o w1.heap.size gO _ V.o.2.2.2 V.o.1 dd b9.o b5.o).mono ?_;rintro e w9 ⟨rfl,bh,bf,bg⟩;have K9:=bg _ _ _ _ dc dc V.o.2.1;have b2:=V.o.2.2.1.trans (bf.mono e2);clear n1 n2 n3 c9 bk u2 u3 u4 u5 u6 V;have bc:=hid bh;have KC:Blk w9 w4.heap.size 36 7 (λj=>(ew x0 o).cells.getD j default):=K9.congr (λj B=>by unfold ew;rw[a8.o];match j,B with|0,_=>rfl|1,_=>rfl|2,_=>rfl|3,_=>rfl|4,_=>rfl|5,_=>rfl|6,_=>rfl);have ca:Hid (ah w1.heap.size w9 (ew x0 o)):=by
  have h:=bc.o;rw[xv] at h;show ah w1.heap.size w9 (ew x0 o);unfold ew;rw[a8.o];exact h
 have cc:Hid (af (ew x0 o) (ew s o)):=Ip bb.o Q;clear bh bf bg K9 bc
 generalize ew x0 o=y at *
 obtain⟨m1,p0,p1,p2,p3,p4,p5,p6⟩:=Boxed.of KC;obtain⟨-,-,-,r,f,-⟩:=Y.o w9 b2;have HZ:=qa2 r f;obtain⟨zl,bn,bl,bp,zc1,bq,zc2,br,zc3,bs,zc4,bt,zc5,bu,bm⟩:=z7 f;have ds:=(Y.o _ a5.o.1).2.2.2.1.size;clear KC r f;go_wp2_with fail;have KZ:=s7b HZ.o.2 y;have bj:=s7w (b:=w.heap.size+3) HZ.o.1 ow y;have aq:=s7o ca.o HZ.o.2 y;unfold set7 at KZ bj aq;obtain⟨ck,cl,cm,cn,co,cp,cq⟩:=dp KZ;refine Xzq (v := .tuple #[y.val,.int .i64 0]) (by simp[results,results93,go_sem,St.val,ck,cl,cm,cn,co,cp,cq]) rfl ?_;refine⟨y,ja,aq.at,⟨λ_=>cc.o,λh=>absurd HX.o h⟩,λ_=>aq.mono ow,bj⟩
def withMoves(s:St)(h:Hs):St:=⟨s.on,s.os,s.hs,h,s.si,s.so,s.sf⟩
theorem kj.grew{B:Nat}{f:World}{s:Os}(h:kj A w s)(c:tm B e w f)(d:124≠e)(k:115≠e):kj A f s:=by
 refine⟨h.le,h.cap,λl => ?_,λi hi => ?_,h.apart,h.room.grew c d⟩
 .obtain⟨q,a1,a,b⟩:=h.list l;exact⟨q,a1,a,c.blk b d⟩
 obtain⟨C,a1,a,b,g,j⟩:=h.lines i hi;exact⟨C,a1,a,b,g,c.blk j k⟩
theorem ah.moreH{h:Hs}(k:ah A w s)(hg:tm A 107 w a)(b:ct A 107 a h):ah A a (Go.Proofs.YtjgckphgagdpaaaGreatDoor.withHolds s h):=by
 refine⟨?_,λi hi=>(k.rows i hi).grew hg dc,k.rapart,k.os.grew hg dc dc,b,k.ms.grew hg dc,k.msr.grew hg dc,k.si.grew hg dc,k.so.grew hg dc,k.sf.grew hg dc,k.aio,k.aif,k.aof,k.ari⟩;exact aoq
theorem ah.moreM{b:World}{h:Hs}(k:ah A w s)(hg:tm A 110 w b)(d:ct A 110 b h)(e:gp A b 110 4 h.a h.c):ah A b (withMoves s h):=by
 refine⟨?_,λi hi=>(k.rows i hi).grew hg dc,k.rapart,k.os.grew hg dc dc,k.hs.grew hg dc,d,e,k.si.grew hg dc,k.so.grew hg dc,k.sf.grew hg dc,k.aio,k.aif,k.aof,k.ari⟩;exact aoq
def ofL(L:List Hd)(j:Nat):Hd:=L.getD j hd0
theorem afd(L:List Hd)(x:Hd):ba (L++[x]).length (ofL (L++[x]))=ba L.length (ofL L)++dt x:=by
 rw[List.length_append,List.length_singleton,vj];have a:ofL (L++[x]) L.length=x:=by simp[ofL,List.getD]
 rw[a]
 congr 1
 exact pn λj b=>by simp[ofL,List.getD,List.getElem?_append_left b]
def rt(h:Hs)(bad:Hd->Bool)(k:Nat):List Hd:=((i6 h).take k).filter (λx => !bad x)
theorem afm{h:Hs}{k:Nat}(a:k<h.n):(i6 h).take (k+1)=(i6 h).take k++[h.z k]:=by
 have b:k<(i6 h).length:=by rw[uk];exact a
 rw[List.take_add_one,List.getElem?_eq_getElem b];simp[i6]
theorem ai3{h:Hs}{bad:Hd->Bool}{k:Nat}(hk:k<h.n)(hb:bad (h.z k)=false):rt h bad (k+1)=rt h bad k++[h.z k]:=aph
theorem afi{h:Hs}{bad:Hd->Bool}{k:Nat}(hk:k<h.n)(hb:bad (h.z k)=true):rt h bad (k+1)=rt h bad k:=aph
theorem ai2(h:Hs)(bad:Hd->Bool):rt h bad h.n=(i6 h).filter (λx => !bad x):=by
 unfold rt;rw[List.take_of_length_le (by rw[uk];exact Nat.le_refl _)]
theorem ai4(h:Hs)(bad:Hd->Bool)(k:Nat):(rt h bad k).length<=h.n:=by
 have a:=List.length_filter_le (λx => !bad x) ((i6 h).take k);have b:=List.length_take_le' k (i6 h);rw[uk] at b;unfold rt;omega
theorem ae7(h:Hs)(bad:Hd->Bool):(eu h bad).n=(rt h bad h.n).length/\(eu h bad).z=ofL (rt h bad h.n):=by
 rw[ai2];exact⟨rfl,rfl⟩
def setOut(s:St)(g:Nat)(x:Int):St:=⟨s.on,s.os,s.hs,s.ms,s.si,mg s.so g x,s.sf⟩
def cf(s:St)(o l:Nat):Nat:=((s.os.z o).ls.z l).o.toNat
def ed(s:St)(o l b:Int):Int:=keptV s.hs.n s.hs.z o l b
def ji(p:Pl)(s:St)(order line bin n:Int):Int :=
 if ag p s=0 then(if ed s order line bin=0 then 4 else if inB n 0 (ed s order line bin) then(if 1048576<s.so.z (cf s order.toNat line.toNat)+n then 2 else 0) else 3) else ag p s
section
variable {p:Pl} {s:St} {order line bin n:Int}
theorem Dx(h:¬ag p s=0):ji p s order line bin n=ag p s:=by unfold ji;rw[if_neg h]
theorem Lc(h:ag p s=0)(a:ed s order line bin=0):ji p s order line bin n=4:=by unfold ji;rw[if_pos h,if_pos a]
theorem Iz(h:ag p s=0)(a:¬ed s order line bin=0)(b:inB n 0 (ed s order line bin)=false):ji p s order line bin n=3:=by unfold ji;rw[if_pos h,if_neg a,b];rfl
theorem Lb(h:ag p s=0)(a:¬ed s order line bin=0)(b:inB n 0 (ed s order line bin)=true)(c:1048576<s.so.z (cf s order.toNat line.toNat)+n):ji p s order line bin n=2:=by unfold ji;rw[if_pos h,if_neg a,b,if_pos c];rfl
theorem Zn(h:ag p s=0)(a:¬ed s order line bin=0)(b:inB n 0 (ed s order line bin)=true)(c:¬1048576<s.so.z (cf s order.toNat line.toNat)+n):ji p s order line bin n=0:=by unfold ji;rw[if_pos h,if_neg a,b,if_neg c];rfl
end
structure qc(p:Pl)(s:St)(o l b:Nat):Prop where
 r:am p s
 kp:¬ed s o l b=0
 on:o<s.os.n
 ln:l<(s.os.z o).ls.n
 bn:b<p.nb
theorem Rd{order line bin:Int}(r:am p s)(h:¬ed s order line bin=0):∃o l b:Nat,order=o/\line=l/\bin=b/\qc p s o l b:=by
 obtain⟨g,i,-⟩:=uu r.fm.hold h;obtain⟨d,e,f⟩:=fq i;obtain⟨a1,a,c⟩:=je (r.fm.home _ g);rw[d] at a1 a;rw[e] at a;rw[f] at c;obtain⟨o,rfl⟩:=Qzz a1.1;obtain⟨l,rfl⟩:=Qzz a.1;obtain⟨b,rfl⟩:=Qzz c.1;exact⟨o,l,b,rfl,rfl,rfl,r,h,a1.2,a.2,ow⟩
section
variable {p:Pl} {s:St} {o l b:Nat}
theorem qc.bd(h:qc p s o l b):1<=ed s o l b/\ed s o l b<=200/\ed s o l b<=keptS s.hs.z o l s.hs.n:=by
 obtain⟨a,c,d⟩:=uu h.r.fm.hold h.kp;have e:=(qf h.r.fm.hold a c).1;have f:=(cw (cd h.r.fm.hold _ a)).2.2.2;have nb6:=h.r.fm.sh.pl.nb6;have b6:=h.bn;have k:=Ub h.r.fm.hold (o:Int) (l:Int) (b:=b) ow;unfold ed;omega
theorem qc.kind(h:qc p s o l b):(s.os.z o).k=1:=by
 have w:=h.r.orders o h.on;unfold cp at w;rw[Xxq] at w;have wl:dh (s.os.z o).k ((s.os.z o).ls.z l) (keptS s.hs.z o l s.hs.n)=false:=dv w.2 l h.ln;have bd:=h.bd;have kd:=h.r.fm.kind o h.on;unfold dh at wl;by_cases h0:(s.os.z o).k=0
 .exact anz
 rw[if_neg h0] at wl;by_cases h2:(s.os.z o).k=2
 .exact anx
 omega
theorem qc.good(h:qc p s o l b):((s.os.z o).ls.z l).o=(cf s o l:Int)/\cf s o l<p.ns:=by
 have g:=(fi (h.r.fm.line o h.on l h.ln)).1;unfold cf;omega
theorem qc.sum(h:qc p s o l b):((s.os.z o).ls.z l).b+((s.os.z o).ls.z l).n+keptS s.hs.z o l s.hs.n=((s.os.z o).ls.z l).l/\((s.os.z o).ls.z l).l<=200/\0<=((s.os.z o).ls.z l).b:=P6 h.r h.on h.ln h.kind
theorem awe(f:cu p s){o:Nat}(e:o<s.os.n)(d:l<(s.os.z o).ls.n)(b:Int):keptV s.hs.n s.hs.z o l b<=ce s b ((s.os.z o).ls.z l).o s.hs.n:=by
 rw[vm b _ _ f.home f.hold];unfold Dc;have a:∀i j,0<=l6 s b ((s.os.z o).ls.z l).o s.hs.n i j:=λi j=>by
  unfold l6;have:=(Gt (λj c=>(cw (cd f.hold j c)).2.2.2) (i:Int) (j:Int) b).1
  split<;>omega
 have g:l6 s b ((s.os.z o).ls.z l).o s.hs.n o l=keptV s.hs.n s.hs.z o l b:=if_pos rfl;have h:=Lu (z:=λj=>l6 s b ((s.os.z o).ls.z l).o s.hs.n o j) d (λj _=>a o j);have m:=Lu (z:=λi=>cq (λj=>l6 s b ((s.os.z o).ls.z l).o s.hs.n i j) (s.os.z i).ls.n) e (λi _=>by
  have:∀k,0<=cq (λj=>l6 s b ((s.os.z o).ls.z l).o s.hs.n i j) k:=λk=>by
   induction k with
   | zero=>exact Int.le_refl _
   | succ k ih=>simp only[cq];have:=a i k;omega
  exact this _)
 omega
theorem qc.there(h:qc p s o l b):ed s o l b<=(s.on.r b).z (cf s o l)/\(s.on.r b).z (cf s o l)<=200/\ed s o l b+aq s b (cf s o l)<=(s.on.r b).z (cf s o l):=by
 have g:=h.good;have a:=(mv (h.r.goods _ g.2)).2 b h.bn;have k:=awe h.r.fm h.on h.ln b;rw[g.1] at k;have c:=(lm (s:=s) (b:=b) (g:=(cf s o l:Int)) (n:=s.ms.n) h.r.fm.moveN).1;have d:=h.r.fm.sh.num b ali (cf s o l) g.2;unfold aq at a ⊢;unfold ed;omega
end
def nk(h:Hs)(o l b:Int):Hs:=⟨h.a,h.n-1,h.c,gu h.z (jy h.n h.z o l b)⟩
def ch(s:St)(o l b:Nat)(n:Int):St:=setLine (setLine (setOut (setOn (withHolds s (nk s.hs o l b)) b (cf s o l) ((s.on.r b).z (cf s o l)-n)) (cf s o l) (s.so.z (cf s o l)+n)) o l 2 (((s.os.z o).ls.z l).b+n)) o l 3 (((s.os.z o).ls.z l).n+(ed s o l b-n))
def lg(s:St)(o:Nat):Bool := !aw (s.os.z o).ls.n (λj=>kx ((s.os.z o).ls.z j))
def t9(p:Pl)(s:St)(o l b:Nat)(n:Int):St:=if lg (ch s o l b n) o then di (ch s o l b n) o 2 else agp p b (ch s o l b n) o l (ed s o l b-n)
section
variable {p:Pl} {s:St} {o l b:Nat} {n:Int}
theorem xw(s:St)(o l b:Nat)(n:Int)(i j:Nat):((ch s o l b n).os.z i).ls.z j=if i=o/\j=l then ⟨((s.os.z o).ls.z l).o,((s.os.z o).ls.z l).l,((s.os.z o).ls.z l).b+n,((s.os.z o).ls.z l).n+(ed s o l b-n)⟩ else(s.os.z i).ls.z j:=by
 unfold ch;rw[rf,rf];by_cases h:i=o/\j=l
 .rw[if_pos h,if_pos h,if_pos h];obtain⟨rfl,rfl⟩:=h
  rfl
 rw[if_neg h,if_neg h,if_neg h]
 rfl
theorem tj(s:St)(o l b:Nat)(n:Int)(i:Nat):((ch s o l b n).os.z i).k=(s.os.z i).k/\((ch s o l b n).os.z i).ls.n=(s.os.z i).ls.n:=by
 unfold ch;rw[um,um,(dw i).1,(dw i).1];exact⟨rfl,rfl⟩
theorem Gw(s:St)(o l b:Nat)(n:Int)(i:Nat):((ch s o l b n).on.r i).n=(s.on.r i).n/\∀j,((ch s o l b n).on.r i).z j=if i=b/\j=cf s o l then(s.on.r i).z j-n else(s.on.r i).z j:=by
 show(if i=b then mg (s.on.r i) (cf s o l) _ else s.on.r i).n=_/\∀j,(if i=b then mg (s.on.r i) (cf s o l) _ else s.on.r i).z j=_;by_cases h:i=b
 .subst h;rw[if_pos rfl];refine⟨rfl,λj => ?_⟩;show(if j=cf s o l then _ else(s.on.r i).z j)=_;by_cases hj:j=cf s o l
  .rw[if_pos hj,if_pos ⟨rfl,hj⟩,hj]
  exact aci
 rw[if_neg h];exact⟨rfl,λj=>by rw[if_neg (λe=>h e.1)]⟩
theorem qc.drop(h:qc p s o l b):aw (nk s.hs o l b).n (df (nk s.hs o l b).z)=false/\∀x y z:Int,keptV (nk s.hs o l b).n (nk s.hs o l b).z x y z=if x=o/\y=l/\z=b then 0 else keptV s.hs.n s.hs.z x y z:=by
 obtain⟨g,d,i⟩:=uu h.r.fm.hold h.kp;have e:=(qf h.r.fm.hold g d).2;have f:jy s.hs.n s.hs.z o l b<s.hs.n:=by rw[e];exact g
 refine⟨Q4 h.r.fm.hold f,λx y z => ?_⟩;have k:=aiq h.r.fm.hold f x y z;show keptV (s.hs.n-1) (gu s.hs.z (jy s.hs.n s.hs.z o l b)) x y z=_;rw[k];have m:=fq d;by_cases c:x=o/\y=l/\z=b
 .have:bq (s.hs.z (jy s.hs.n s.hs.z o l b)) x y z=true:=by rw[c.1,c.2.1,c.2.2];exact d
  rw[this,if_pos c]
  rfl
 rw[if_neg c];cases a:bq (s.hs.z (jy s.hs.n s.hs.z o l b)) x y z
 .rfl
 exact absurd ⟨(fq a).1.symm.trans m.1,(fq a).2.1.symm.trans m.2.1,(fq a).2.2.symm.trans m.2.2⟩ c
theorem qc.keptS(h:qc p s o l b)(n:Int)(x y:Int):Go.Proofs.YtjgckphgagdpaaaGreatDoor.keptS (ch s o l b n).hs.z x y (ch s o l b n).hs.n=Go.Proofs.YtjgckphgagdpaaaGreatDoor.keptS s.hs.z x y s.hs.n-if x=o/\y=l then ed s o l b else 0:=by
 have d:=h.drop;have nb6:=h.r.fm.sh.pl.nb6;have f:=h.bn;show Go.Proofs.YtjgckphgagdpaaaGreatDoor.keptS (nk s.hs o l b).z x y (nk s.hs o l b).n=_;rw[<-Af _ x y _ d.1,<-Af _ x y _ h.r.fm.hold];by_cases c:x=o/\y=l
 .rw[if_pos c];have e:=uv (z:=λz=>keptV s.hs.n s.hs.z x y z) (z':=λz=>keptV (nk s.hs o l b).n (nk s.hs o l b).z x y z) (m:=b) (n := -ed s o l b) (k:=6) ow (λi hi=>by
   rw[d.2];by_cases a:i=b
   .rw[if_pos ⟨c.1,c.2,ow⟩,if_pos a,a,c.1,c.2];unfold ed;omega
   rw[if_neg (λe=>a ow),if_neg a,Int.add_zero])
  rw[e];omega
 rw[if_neg c,Int.sub_zero];exact vt λi _=>by rw[d.2,if_neg (λe=>c ⟨e.1,e.2.1⟩)]
structure mi(p:Pl)(s:St)(o l b:Nat)(n:Int):Prop where
 hd:qc p s o l b
 n0:0<=n
 nh:n<=ed s o l b
 om:s.so.z (cf s o l)+n<=1048576
theorem Zo{order line bin:Int}(h:ji p s order line bin n=0):ag p s=0/\∃o l b:Nat,order=o/\line=l/\bin=b/\mi p s o l b n:=by
 by_cases a:ag p s=0
 .by_cases c:ed s order line bin=0
  .rw[Lc a c] at h;exact absurd h dc
  cases d:inB n 0 (ed s order line bin)
  .rw[Iz a c d] at h;exact absurd h dc
  by_cases e:1048576<s.so.z (cf s order.toNat line.toNat)+n
  .rw[Lb a c d e] at h;exact absurd h dc
  obtain⟨o,l,b,rfl,rfl,rfl,hi⟩:=Rd (et a) c;have:=ar d;exact⟨a,o,l,b,rfl,rfl,rfl,hi,this.1,this.2,by have f:¬1048576<s.so.z (cf s o l)+n:=e;omega⟩
 rw[Dx a] at h;exact absurd h a
theorem mi.formed(h:mi p s o l b n):cu p (ch s o l b n):=by
 have f:=h.hd.r.fm;have d:=h.hd.drop;have g:=h.hd.good;have E:=h.hd.there;have D:=h.hd.sum;have bd:=h.hd.bd;have n0:=h.n0;have nh:=h.nh;have om:=h.om;have q:yf p (ch s o l b n).on:=⟨f.sh.pl,f.sh.n,λi hi=>(Gw s o l b n i).1.trans (f.sh.len i hi),λi hi j hj=>by
  rw[(Gw s o l b n i).2 j];have y:=f.sh.num i hi j hj;by_cases c:i=b/\j=cf s o l
  .rw[if_pos c];obtain⟨rfl,rfl⟩:=c;omega
  rw[if_neg c];exact y⟩
 refine⟨q,zw (yg f.sh0).1 q,f.os4,f.ms8,λi hi=>by rw[(tj s o l b n i).2];exact f.lns i hi,λi hi=>by rw[(tj s o l b n i).1];exact f.kind i hi,λi hi j hj => ?_,d.1,λi hi => ?_,f.move,f.sin,f.son,f.sfn,f.sib,λj hj => ?_,f.sfb⟩
 .have m:j<(s.os.z i).ls.n:=ag1;rw[xw];by_cases c:i=o/\j=l
  .rw[if_pos c];obtain⟨b1,b2,b3,b4⟩:=fi (f.line o h.hd.on l h.hd.ln);unfold mq;exact S9
  rw[if_neg c];exact f.line i hi j m
 rotate_left
 .have t:=f.sob j hj;show 0<=(if j=cf s o l then s.so.z (cf s o l)+n else s.so.z j)/\(if j=cf s o l then s.so.z (cf s o l)+n else s.so.z j)<=1048576;by_cases c:j=cf s o l
  .rw[if_pos c];rw[c] at t;omega
  rw[if_neg c];exact t
 have hx:aw (ch s o l b n).hs.n (df (ch s o l b n).hs.z)=false:=d.1;have e:=(qf hx hi (yp _)).1;have fn:=(cw (cd hx i hi)).2.2.2;have u:keptV (ch s o l b n).hs.n (ch s o l b n).hs.z ((ch s o l b n).hs.z i).o ((ch s o l b n).hs.z i).l ((ch s o l b n).hs.z i).b=_:=d.2 _ _ _;rw[u] at e
 split at e
 .omega
 obtain⟨A,B,-⟩:=uu f.hold (o:=((ch s o l b n).hs.z i).o) (l:=((ch s o l b n).hs.z i).l) (b:=((ch s o l b n).hs.z i).b) ow;obtain⟨v,w,x⟩:=fq B;obtain⟨a1,a,k⟩:=je (f.home _ A);rw[v] at a1 a;rw[w] at a;rw[x] at k;refine sp a1 ⟨a.1,?_⟩ k;rw[(tj s o l b n _).2];exact a.2
theorem mi.held(h:mi p s o l b n)(c g:Nat):ce (ch s o l b n) c g (ch s o l b n).hs.n=ce s c g s.hs.n-if c=b/\g=cf s o l then ed s o l b else 0:=by
 have f:=h.hd.r.fm;have fx:=h.formed;have d:=h.hd.drop;have w:=h.hd.good;rw[vm (c:Int) (g:Int) _ fx.home fx.hold,vm (c:Int) (g:Int) _ f.home f.hold];have key:∀i j,l6 (ch s o l b n) c g (ch s o l b n).hs.n i j=l6 s c g s.hs.n i j+if i=o/\j=l then -(if c=b/\g=cf s o l then ed s o l b else 0) else 0:=λi j=>by
  unfold l6;have e:keptV (ch s o l b n).hs.n (ch s o l b n).hs.z (i:Int) (j:Int) (c:Int)=_:=d.2 i j c;rw[e];have v:(((ch s o l b n).os.z i).ls.z j).o=((s.os.z i).ls.z j).o:=by
   rw[xw];by_cases q:i=o/\j=l
   .rw[if_pos q,q.1,q.2]
   rw[if_neg q]
  rw[v];by_cases q:i=o/\j=l
  .rw[if_pos q];obtain⟨rfl,rfl⟩:=q;rw[w.1];by_cases a:g=cf s i j
   .subst a;rw[if_pos rfl,if_pos rfl];by_cases hc:c=b
    .subst hc;rw[if_pos ⟨rfl,rfl,rfl⟩,if_pos ⟨rfl,rfl⟩];unfold ed;omega
    rw[if_neg (λe=>hc ow),if_neg (λe=>hc e.1)];omega
   rw[if_neg (λe=>a ow),if_neg (λe=>a ow),if_neg (λe=>a e.2)]
   rfl
  have u:(if (i:Int)=o/\(j:Int)=l/\(c:Int)=b then 0 else keptV s.hs.n s.hs.z (i:Int) (j:Int) (c:Int))=keptV s.hs.n s.hs.z (i:Int) (j:Int) (c:Int):=if_neg (λe=>q ⟨ow,ow⟩);rw[if_neg q,u,Int.add_zero]
 unfold Dc;have y:(ch s o l b n).os.n=s.os.n:=rfl;rw[y];have:=uv (z:=λi=>cq (λj=>l6 s c g s.hs.n i j) (s.os.z i).ls.n) (z':=λi=>cq (λj=>l6 (ch s o l b n) c g (ch s o l b n).hs.n i j) ((ch s o l b n).os.z i).ls.n) (m:=o) (n := -(if c=b/\g=cf s o l then ed s o l b else 0)) (k:=s.os.n) h.hd.on (λi hi=>by
  rw[(tj s o l b n i).2];by_cases q:i=o
  .rw[if_pos q];subst q;exact uv h.hd.ln λj x=>by
    rw[key];by_cases t:j=l
    .rw[if_pos ⟨rfl,t⟩,if_pos t]
    rw[if_neg (λe=>t e.2),if_neg t]
  rw[if_neg q,Int.add_zero];exact vt λj x=>by rw[key,if_neg (λe=>q e.1),Int.add_zero])
 rw[this];omega
theorem mi.avail(h:mi p s o l b n)(c g:Nat):aq (ch s o l b n) c g=aq s c g+if c=b/\g=cf s o l then ed s o l b-n else 0:=by
 unfold aq;rw[h.held,(Gw s o l b n c).2 g];have e:bp (ch s o l b n) c g (ch s o l b n).ms.n=bp s c g s.ms.n:=rm (x:=ch s o l b n) (s:=s) (λj _=>rfl);rw[e];by_cases q:c=b/\g=cf s o l
 .rw[if_pos q,if_pos q,if_pos q];omega
 rw[if_neg q,if_neg q,if_neg q];omega
theorem mi.goods(h:mi p s o l b n)(g:Nat)(d:g<p.ns):cq (λi=>((ch s o l b n).on.r i).z g) (ch s o l b n).on.n=(ch s o l b n).si.z g-(ch s o l b n).so.z g+(ch s o l b n).sf.z g/\∀c,c<p.nb->0<=aq (ch s o l b n) c g:=by
 obtain⟨a1,a⟩:=mv (h.hd.r.goods g d);have n0:=h.n0;have nh:=h.nh;refine⟨?_,λc hc => ?_⟩
 .show cq _ s.on.n=s.si.z g-(if g=cf s o l then s.so.z (cf s o l)+n else s.so.z g)+s.sf.z g;by_cases q:g=cf s o l
  .rw[if_pos q];have e:=uv (z:=λi=>(s.on.r i).z g) (z':=λi=>((ch s o l b n).on.r i).z g) (m:=b) (n := -n) (k:=s.on.n) (by rw[h.hd.r.fm.sh.n];exact h.hd.bn) (λi hi=>by
    rw[(Gw s o l b n i).2 g];by_cases c:i=b
    .rw[if_pos ⟨c,q⟩,if_pos c];omega
    rw[if_neg (λe=>c e.1),if_neg c,Int.add_zero])
   rw[e,a1,q];omega
  rw[if_neg q,<-a1];exact vt λi hi=>by rw[(Gw s o l b n i).2 g,if_neg (λe=>q e.2)]
 rw[h.avail];have:=a c hc
 split<;>omega
theorem mi.lineOK(h:mi p s o l b n)(hi:i<s.os.n)(a:j<(s.os.z i).ls.n):dh (s.os.z i).k (((ch s o l b n).os.z i).ls.z j) (Go.Proofs.YtjgckphgagdpaaaGreatDoor.keptS (ch s o l b n).hs.z i j (ch s o l b n).hs.n)=false:=by
 have w:=h.hd.r.orders i hi;unfold cp at w;rw[Xxq] at w;have d:dh (s.os.z i).k ((s.os.z i).ls.z j) (Go.Proofs.YtjgckphgagdpaaaGreatDoor.keptS s.hs.z i j s.hs.n)=false:=dv w.2 j a;rw[h.hd.keptS,xw];by_cases c:i=o/\j=l
 .rw[if_pos c,if_pos ⟨ow,ow⟩];obtain⟨rfl,rfl⟩:=c;have f:=h.hd.sum;unfold dh;rw[h.hd.kind,if_neg dc,if_neg dc,Bool.not_eq_false',beq_iff_eq];dsimp only;omega
 rw[if_neg c,if_neg (λe=>c ⟨ow,ow⟩),Int.sub_zero];exact d
theorem mi.right(h:mi p s o l b n)(a:lg (ch s o l b n) o=false):am p (ch s o l b n):=by
 refine⟨h.formed,λg a=>ut (h.goods g a).1 (h.goods g a).2,λi hi => ?_⟩;have w:=h.hd.r.orders i hi;unfold cp at w ⊢;rw[Xxq] at w ⊢;rw[(tj s o l b n i).1];refine⟨?_,dj λj hj=>h.lineOK hi ag1⟩;by_cases c:i=o
 .subst c;unfold lg at a;rw[a,Bool.and_false]
 exact am1
theorem mi.closed(h:mi p s o l b n)(d:lg (ch s o l b n) o=true):am p (di (ch s o l b n) o 2):=by
 have f:=h.formed;have q:∀i,((di (ch s o l b n) o 2).os.z i).ls=((ch s o l b n).os.z i).ls:=λi=>De _ _ _ _;have all:∀j,j<((ch s o l b n).os.z o).ls.n->(((ch s o l b n).os.z o).ls.z j).b=(((ch s o l b n).os.z o).ls.z j).l:=λj hj=>by
  unfold lg at d;rw[Bool.not_eq_true'] at d;have:=dv d j hj;unfold kx at this
  simpa using this
 refine⟨⟨f.sh,f.sh0,f.os4,f.ms8,λi hi=>by rw[q];exact f.lns i hi,λi hi => ?_,λi hi j hj=>by rw[q] at hj ⊢;exact f.line i hi j hj,f.hold,λi hi => ?_,f.move,f.sin,f.son,f.sfn,f.sib,f.sob,f.sfb⟩,λg d => ?_,λi hi => ?_⟩
 .show 0<=(if i=o then(⟨2,((ch s o l b n).os.z i).ls⟩:Od) else(ch s o l b n).os.z i).k/\(if i=o then(⟨2,((ch s o l b n).os.z i).ls⟩:Od) else(ch s o l b n).os.z i).k<=2;exact an9
 .have e:=je (f.home i hi);refine sp e.1 ⟨e.2.1.1,?_⟩ e.2.2;rw[q];exact e.2.1.2
 .refine ut (h.goods g d).1 λc hc => ?_;have a:=(h.goods g d).2 c hc;have e:aq (di (ch s o l b n) o 2) c g=aq (ch s o l b n) c g:=by
   unfold aq;rw[ui (x:=di (ch s o l b n) o 2) (s:=ch s o l b n) (λj _=>rfl) (λj _=>by unfold kf;rw[q])];rw[rm (x:=di (ch s o l b n) o 2) (s:=ch s o l b n) (λj _=>rfl)]
   rfl
  rw[e];exact a
 have m:i<s.os.n:=hi;unfold cp;rw[q,Xxq];by_cases c:i=o;rotate_left
 .have y:(di (ch s o l b n) o 2).os.z i=(ch s o l b n).os.z i:=if_neg c;rw[y,(tj s o l b n i).1];have w:=h.hd.r.orders i m;unfold cp at w;rw[Xxq] at w;refine⟨?_,dj λj hj=>h.lineOK m ag1⟩;exact am1
 subst c;have v:((di (ch s i l b n) i 2).os.z i).k=2:=by rw[xv]
 rw[v];refine⟨rfl,dj λj hj => ?_⟩;have u:j<(s.os.z i).ls.n:=by rw[<-(tj s i l b n i).2];exact hj
 have t:=h.lineOK m u;have A:=all j hj;have D:=(wh (z:=(ch s i l b n).hs.z) i j (ch s i l b n).hs.n λj hj=>(cw (cd f.hold j hj)).2.2.2).1;have B:=fi (f.line i hi j hj);rw[h.hd.kind] at t;unfold dh at t ⊢;rw[if_neg dc,if_neg dc,Bool.not_eq_false',beq_iff_eq] at t;rw[if_neg dc,if_pos rfl];simp only[Xxq,Bool.not_eq_false',beq_iff_eq];have e:(di (ch s i l b n) i 2).hs=(ch s i l b n).hs:=rfl;rw[e];omega
theorem mi.takeIn(h:mi p s o l b n):i9 p (ch s o l b n) o l (ed s o l b-n):=by
 have e:=xw s o l b n o l;rw[if_pos ⟨rfl,rfl⟩] at e;have a:=fi (h.hd.r.fm.line o h.hd.on l h.hd.ln);have g:=h.hd.good;have n0:=h.n0;have nh:=h.nh;have d:=h.hd.sum;refine⟨h.formed,λc hc => ?_,h.hd.on,as7,ow,?_,?_⟩
 .rw[e];exact(h.goods _ dy).2 c hc
 .rw[e];dsimp only;omega
 rw[e,h.hd.keptS,if_pos ⟨rfl,rfl⟩];dsimp only;omega
theorem mi.stepIn(h:mi p s o l b n)(a:lg (ch s o l b n) o=false):lf p b (ch s o l b n) o l (ed s o l b-n):=by
 have t:=h.takeIn;have:=h.hd.bn;exact⟨h.right a,t.on,t.ln,t.n0,Or.inr ⟨by rw[(tj s o l b n o).1];exact h.hd.kind,t.bk⟩,Or.inr ⟨ow,ow⟩⟩
theorem mi.all0(h:mi p s o l b n)(c:lg (ch s o l b n) o=true):ed s o l b-n=0:=by
 unfold lg at c;rw[Bool.not_eq_true'] at c;have a:=dv c l as7;rw[xw,if_pos ⟨rfl,rfl⟩] at a;unfold kx at a;have d:((s.os.z o).ls.z l).b+n=((s.os.z o).ls.z l).l:=by simpa using a
 have e:=fi (h.hd.r.fm.line o h.hd.on l h.hd.ln);have f:=h.hd.sum;have bd:=h.hd.bd;have nh:=h.nh;omega
theorem af3(h:mi p s o l b n):am p (t9 p s o l b n):=by
 unfold t9;cases a:lg (ch s o l b n) o
 .rw[if_neg dc];exact ng.right (h.stepIn a) (Ap h.takeIn)
 rw[if_pos rfl];exact h.closed a
end
theorem ah.orderCells{o:Nat}(h:ah A w s)(e:o<s.os.n):∃g,s.os.a=some ⟨g,0,none⟩/\A<=g/\g<w.heap.size/\w.cell? ⟨g,o*2,none⟩=some (.int .i64 (s.os.z o).k)/\w.cell? ⟨g,o*2+1,none⟩=some (.slice (s.os.z o).ls.a (s.os.z o).ls.n (s.os.z o).ls.c)/\∀j,w.frozen? ⟨g,j,none⟩=false:=by
 obtain⟨g,f,i,b⟩:=h.os.list ow;have d:=b.cell (j:=o*2) ow;have e0:=tq (z:=s.os.z) e (show 0<2 by decide);rw[Nat.add_zero] at e0;rw[e0] at d;have c1:=b.cell (j:=o*2+1) ow;rw[tq (z:=s.os.z) e (show 1<2 by decide)] at c1;exact⟨g,f,i,b.lt,d,c1,λj=>b.frozen j⟩
theorem afj{k:Nat}(a:((s.os.z i).ls.z k).b=0):setLine (fp s i k) i k 3 ((s.os.z i).ls.z k).l=fp s i (k+1):=by
 rw[<-Ks,a,Int.sub_zero]
structure de(A B7:Nat)(W0:World)(cur:St)(wk:World):Prop where
 own:ah A wk cur
 box:Blk wk B7 36 7 (λj=>cur.cells.getD j default)
 bel:Bw W0 wk
 le:A<=wk.heap.size
theorem de.below{c e:World}{cur:St}(h:de A b c cur e)(a:Bw e d):de A b c cur d :=
 ⟨h.own.below a,h.box.below a,h.bel.trans (a.mono h.bel.size),Qzx h.le a.size⟩
theorem ah.onCell(h:ah A w s)(f:b<s.on.n)(l:g<(s.on.r b).n):∃d G,s.on.a=some ⟨d,0,none⟩/\d<w.heap.size/\w.cell? ⟨d,b,none⟩=some (.slice (some ⟨G,0,none⟩) (s.on.r b).n (s.on.r b).c)/\(s.on.r b).a=some ⟨G,0,none⟩/\A<=G/\G<w.heap.size/\(s.on.r b).n<=(s.on.r b).c/\(s.on.r b).c<=maxLen/\w.cell? ⟨G,g,none⟩=some (.int .i64 ((s.on.r b).z g))/\(∀j,w.frozen? ⟨G,j,none⟩=false)/\s.on.n<=s.on.c/\s.on.c<=maxLen:=by
 obtain⟨d,a1,m,i,k,e⟩:=h.on;obtain⟨G,b1,b2,b3,b4,b5⟩:=h.rows b f;have c:=e.cell (j:=b) f;rw[b1] at c;exact⟨d,G,a1,e.lt,c,b1,b2,b5.lt,b3,b4,b5.cell l,λj=>b5.frozen j,i,k⟩
theorem ki.cellAt{r:Rw}(h:ki A w r)(b:g<r.n):∃G,r.a=some ⟨G,0,none⟩/\A<=G/\G<w.heap.size/\r.n<=r.c/\r.c<=maxLen/\w.cell? ⟨G,g,none⟩=some (.int .i64 (r.z g))/\∀j,w.frozen? ⟨G,j,none⟩=false:=by
 obtain⟨G,b1,b2,b3,b4,b5⟩:=h;exact⟨G,b1,b2,b5.lt,b3,b4,b5.cell b,λj=>b5.frozen j⟩
theorem ah.setOut{G:Nat}(h:ah A w s)(b:s.so.a=some ⟨G,0,none⟩)(g:Nat)(x:Int):ah A (w.setCell ⟨G,g,none⟩ (.int .i64 x)) (Go.Proofs.YtjgckphgagdpaaaGreatDoor.setOut s g x):=by
 obtain⟨q,b1,b2,b3,b4,b5⟩:=h.so;rw[b] at b1;simp only[co] at b1;subst b1;refine⟨?_,λi hi=>(h.rows i hi).apart (λe=>(h.ari i hi).2.1 (e.trans b.symm)) _ _,h.rapart,h.os.other b5 dc dc _ _,h.hs.other b5 dc _ _,h.ms.other b5 dc _ _,h.msr.set _ _ _,h.si.apart (λe=>h.aio (e.trans b.symm)) _ _,h.so.set b _ _,h.sf.apart (λe=>h.aof (b.trans e.symm)) _ _,h.aio,h.aif,h.aof,h.ari⟩;exact amz
theorem ads{t:St}(h:af s t)(g:Nat)(x:Int):af (setOut s g x) (setOut t g x):=
 ⟨h.on,h.os,h.hs,h.ms,h.si,⟨h.so.1,λj a=>by
  show(if j=g then x else s.so.z j)=if j=g then x else t.so.z j;rw[h.so.2 j a]⟩,h.sf⟩
theorem Nq{t:St}(h:af s t)(o l c:Nat)(v:Int):af (setLine s o l c v) (setLine t o l c v):=by
 refine⟨h.on,⟨h.os.1,λi hi => ?_⟩,h.hs,h.ms,h.si,h.so,h.sf⟩;have a:i<s.os.n:=hi;have e:=h.os.2 i a;rw[um,um,(dw i).1,(dw i).1];refine⟨e.1,e.2.1,λj b => ?_⟩;rw[rf,rf,e.2.2 j b]
theorem Uu{t:St}(h:af s t){k a:Hs}(b:k.n=a.n)(c:∀j,j<k.n->k.z j=a.z j):af (withHolds s k) (withHolds t a):=⟨h.on,h.os,⟨b,c⟩,h.ms,h.si,h.so,h.sf⟩
theorem Ko{t:St}(h:af s t)(o:Nat)(v:Int):af (di s o v) (di t o v):=by
 refine⟨h.on,⟨h.os.1,λi hi => ?_⟩,h.hs,h.ms,h.si,h.so,h.sf⟩;have e:=h.os.2 i hi;show(if i=o then(⟨v,(s.os.z i).ls⟩:Od) else s.os.z i).k=(if i=o then(⟨v,(t.os.z i).ls⟩:Od) else t.os.z i).k/\((Cn s.os o v).z i).ls.n=((Cn t.os o v).z i).ls.n/\∀j,j<((Cn s.os o v).z i).ls.n->((Cn s.os o v).z i).ls.z j=((Cn t.os o v).z i).ls.z j;rw[De,De];refine⟨?_,e.2⟩;by_cases c:i=o
 .rw[if_pos c,if_pos c]
 rw[if_neg c,if_neg c];exact e.1
def xx(s:St)(h:Hs)(o l b g:Nat)(n k:Int):St:=setLine (setLine (setOut (setOn (withHolds s h) b g ((s.on.r b).z g-n)) g (s.so.z g+n)) o l 2 (((s.os.z o).ls.z l).b+n)) o l 3 (((s.os.z o).ls.z l).n+(k-n))
theorem Ld(e:af x s){o:Nat}{n:Int}(a:qc p s o l b){h:Hs}(i:h.n=(nk s.hs o l b).n)(k:∀j,j<h.n->h.z j=(nk s.hs o l b).z j):af (xx x h o l b (cf s o l) n (ed s o l b)) (ch s o l b n):=by
 have g:=a.good;have c:(x.on.r b).z (cf s o l)=(s.on.r b).z (cf s o l):=e.num a.r.fm a.bn g.2;have d:x.so.z (cf s o l)=s.so.z (cf s o l):=e.so.2 _ (by rw[e.so.1,a.r.fm.son];exact g.2);have f:=e.line a.on a.ln;unfold xx ch;rw[c,d,f];exact Nq (Nq (ads (Am (Uu e i k) _ _ _) _ _) _ _ _ _) _ _ _ _
theorem lf.same{but:Int}{a:St}{n:Int}(h:lf p but y i j n)(e:af a y):lf p but a i j n:=by
 have b:i<a.os.n:=by rw[e.os.1];exact h.on
 have k:=e.os.2 i b;refine⟨e.right h.r,b,by rw[k.2.1];exact h.ln,h.n0,?_,h.bt⟩;rw[k.1,e.line h.on h.ln];exact h.kd
theorem Iv(e:af x s){o:Nat}(b:o<s.os.n):lg x o=lg s o:=by
 have k:=e.os.2 o (by rw[e.os.1];exact b);unfold lg;rw[k.2.1]
 congr 1
 exact sk λj a=>by rw[k.2.2 j (by rw[k.2.1];exact a)]
abbrev Bn(p:Pl)(f:Bool):={ k:Nat // k<p.nb/\(p.zb k).front=f }
def frX(p:Pl)(f:Bool):Nat->List (Bn p f)
 | 0=>[]
 | k+1=>frX p f k++(if h:k<p.nb/\(p.zb k).front=f then [⟨k,h⟩] else [])
theorem Jg{f:Bool}{k:Nat}(h:k<p.nb/\(p.zb k).front=f):frX p f (k+1)=frX p f k++[⟨k,h⟩]:=by
 simp only[frX];rw[dif_pos h]
theorem P4{f:Bool}{k:Nat}(h:¬(p.zb k).front=f):frX p f (k+1)=frX p f k:=by
 simp only[frX];rw[dif_neg (λe=>h e.2),List.append_nil]
theorem awd(p:Pl)(f:Bool)(k:Nat):(frX p f k).length<=k:=by
 induction k with
 | zero=>exact Nat.le_refl _
 | succ k ih =>
  by_cases h:k<p.nb/\(p.zb k).front=f
  .rw[Jg h,List.length_append];simp;omega
  simp only[frX];rw[dif_neg h,List.append_nil];omega
theorem afh(p:Pl)(f:Bool){k:Nat}(h:k<=m):frX p f k <+: frX p f m:=by
 induction m with
 | zero=>rw[show k=0 by omega];exact List.prefix_refl _
 | succ m ih =>
  by_cases a:k=m+1
  .rw[a];exact List.prefix_refl _
  exact(ih ow).trans (List.prefix_append _ _)
def jf(s:St)(m:Hd):St:=withMoves s ⟨s.ms.a,s.ms.n+1,s.ms.c,λi=>if i=s.ms.n then m else s.ms.z i⟩
def rq(p:Pl)(s:St)(b g f:Nat):Int:=min (min ((p.zb b).high-ep s b g) (aq s f g)) ((gw p s b).tdiv (p.zs g))
def qe(p:Pl)(b g f:Nat)(s:St):St:=if s.ms.n<8/\1<=rq p s b g f then jf s ⟨g,f,b,rq p s b g f⟩ else s
def ka(p:Pl)(b g:Nat)(L:List (Bn p false))(s:St):St:=L.foldl (λy f=>qe p b g f.1 y) s
def jp(p:Pl)(b:Nat):Nat->St->St
 | 0,s=>s
 | g+1,s=>if (p.zb b).low<=ep (jp p b g s) b g then jp p b g s else ka p b g (frX p false p.nb) (jp p b g s)
def ox(p:Pl)(L:List (Bn p true))(s:St):St:=L.foldl (λy b=>jp p b.1 p.ns y) s
def Du(p:Pl)(s:St):St:=ox p (frX p true p.nb) s
theorem Q8(p:Pl)(b g:Nat)(L:List (Bn p false))(f:Bn p false)(s:St):ka p b g (L++[f]) s=qe p b g f.1 (ka p b g L s):=by
 unfold ka;rw[List.foldl_append];rfl
theorem Q7(p:Pl)(L:List (Bn p true))(b:Bn p true)(s:St):ox p (L++[b]) s=jp p b.1 p.ns (ox p L s):=by
 unfold ox;rw[List.foldl_append];rfl
theorem Vf(h:(p.zb b).low<=ep (jp p b g s) b g):jp p b (g+1) s=jp p b g s:=by
 simp only[jp];rw[if_pos h]
theorem Yu(h:¬(p.zb b).low<=ep (jp p b g s) b g):jp p b (g+1) s=ka p b g (frX p false p.nb) (jp p b g s):=by
 simp only[jp];rw[if_neg h]
theorem Gk{f:Nat}(h:8<=s.ms.n):qe p b g f s=s:=if_neg ow
theorem Fh{p:Pl}{b g:Nat}{s:St}(h:8<=s.ms.n):∀L,ka p b g L s=s
 | []=>rfl
 | f :: L=>by
  have:ka p b g (f :: L) s=ka p b g L (qe p b g f.1 s):=rfl;rw[this,Gk h];exact Fh h L
theorem Q9{p:Pl}{b:Nat}{s:St}(h:8<=s.ms.n):∀g,jp p b g s=s
 | 0=>rfl
 | g+1=>by
  have a:=Q9 (p:=p) (b:=b) h g;simp only[jp];rw[a,Fh h]
  split<;>rfl
theorem Q6{p:Pl}{s:St}(h:8<=s.ms.n):∀L,ox p L s=s
 | []=>rfl
 | b :: L=>by
  have:ox p (b :: L) s=ox p L (jp p b.1 p.ns s):=rfl;rw[this,Q9 h];exact Q6 h L
theorem ais{L M:List (Bn p false)}(a:L <+: M)(e:ka p b g L s=y)(h:8<=y.ms.n):ka p b g M s=y:=by
 obtain⟨R,rfl⟩:=a;have:ka p b g (L++R) s=ka p b g R (ka p b g L s):=List.foldl_append;rw[this,e,Fh h]
theorem Ve{p:Pl}{b:Nat}{s y:St}{k:Nat}(e:jp p b k s=y)(h:8<=y.ms.n):∀{m:Nat},k<=m->jp p b m s=y
 | 0,hm=>by rw[show k=0 by omega] at e;exact e
 | m+1,hm=>by
  by_cases a:k=m+1
  .rw[<-a];exact e
  have c:=Ve e h (m:=m) ow;simp only[jp];rw[c,Fh h]
  split<;>rfl
theorem air{L M:List (Bn p true)}(a:L <+: M)(e:ox p L s=y)(h:8<=y.ms.n):ox p M s=y:=by
 obtain⟨R,rfl⟩:=a;have:ox p (L++R) s=ox p R (ox p L s):=List.foldl_append;rw[this,e,Q6 h]
section
variable {p:Pl} {s y:St} {m:Hd} {b g f:Nat}
theorem z9(s:St)(m:Hd)(h:j<s.ms.n):(jf s m).ms.z j=s.ms.z j:=if_neg ow
theorem zg(s:St)(m:Hd):(jf s m).ms.z s.ms.n=m:=if_pos rfl
theorem Xy(s:St)(m:Hd)(b g:Int):bp (jf s m) b g (jf s m).ms.n=bp s b g s.ms.n+if m.l=b/\m.o=g then m.n else 0:=by
 show bp (jf s m) b g (s.ms.n+1)=_;simp only[bp];rw[zg,rm (x:=jf s m) (s:=s) (k:=s.ms.n) λj a=>z9 s m a]
theorem Xz(s:St)(m:Hd)(b g:Int)(k:Nat):ce (jf s m) b g k=ce s b g k:=ui (λj a=>rfl) (λj a=>rfl)
theorem Wh(s:St)(m:Hd)(b g:Nat):aq (jf s m) b g=aq s b g-if m.l=(b:Int)/\m.o=(g:Int) then m.n else 0:=by
 unfold aq;rw[Xy];rw[show ce (jf s m) b g (jf s m).hs.n=ce s b g s.hs.n from Xz s m b g s.hs.n];rw[show((jf s m).on.r b).z g=(s.on.r b).z g from rfl];omega
theorem It{x s:St}{b g:Int}:∀{k:Nat},(∀j,j<k->x.ms.z j=s.ms.z j)->ca x b g k=ca s b g k
 | 0,_=>rfl
 | k+1,h=>by
  simp only[ca];rw[It (k:=k) λj a=>h j ow,h k ow]
theorem Md(s:St)(m:Hd)(b g:Nat):ep (jf s m) b g=ep s b g+if m.b=(b:Int)/\m.o=(g:Int) then m.n else 0:=by
 unfold ep;have:ca (jf s m) b g (jf s m).ms.n=ca s b g s.ms.n+if m.b=(b:Int)/\m.o=(g:Int) then m.n else 0:=by
  show ca (jf s m) b g (s.ms.n+1)=_;simp only[ca];rw[zg,It (x:=jf s m) (s:=s) (k:=s.ms.n) λj a=>z9 s m a]
 rw[this,show((jf s m).on.r b).z g=(s.on.r b).z g from rfl,Int.add_assoc]
theorem Xx(p:Pl)(s:St)(m:Hd)(b:Nat):gw p (jf s m) b=gw p s b-if m.b=(b:Int) then m.n*p.zs m.o.toNat else 0:=by
 unfold gw;have:j8 p (jf s m) b (jf s m).ms.n=j8 p s b s.ms.n+if m.b=(b:Int) then m.n*p.zs m.o.toNat else 0:=by
  show j8 p (jf s m) b (s.ms.n+1)=_;simp only[j8];rw[zg,Nv (x:=jf s m) (s:=s) (k:=s.ms.n) λj a=>z9 s m a]
 rw[this,show(jf s m).on=s.on from rfl];omega
theorem ae1(c:0<=m.o/\m.o<p.ns)(d:0<=m.l/\m.l<p.nb)(e:0<=m.b/\m.b<p.nb)(a:¬m.l=m.b)(f:1<=m.n/\m.n<=200):nt p m=false:=by
 unfold nt;rw[cy ow,cy ow,cy ow,cy ow]
 simpa using a
theorem Wi(r:am p s)(w:s.ms.n<8)(v:g<p.ns)(u:f<p.nb)(t:b<p.nb)(o:¬f=b){n:Int}(e:1<=n)(k:n<=200)(q:n<=aq s f g):am p (jf s ⟨g,f,b,n⟩):=by
 have F:=r.fm;refine⟨⟨F.sh,F.sh0,F.os4,by show s.ms.n+1<=8;omega,F.lns,F.kind,F.line,F.hold,F.home,λi hi => ?_,F.sin,F.son,F.sfn,F.sib,F.sob,F.sfb⟩,λj l => ?_,r.orders⟩
 .have m:i<s.ms.n+1:=hi;by_cases h:i=s.ms.n
  .rw[h,zg];refine ae1 ⟨?_,?_⟩ ⟨?_,?_⟩ ⟨?_,?_⟩ ?_ ⟨e,k⟩<;>simp<;>omega
  rw[z9 s _ ow];exact F.move i ow
 obtain⟨a1,a⟩:=mv (r.goods j l);refine ut a1 λi hi => ?_;rw[Wh];have:=a i hi;by_cases h:(f:Int)=(i:Int)/\(g:Int)=(j:Int)
 .rw[if_pos h];have c:f=i:=ow;have d:g=j:=ow;subst c d;show 0<=aq s f g-n;omega
 rw[if_neg h];omega
theorem F5(h:af x y)(m:Hd){k:Hs}(hn:k.n=x.ms.n+1)(b:∀j,j<x.ms.n->k.z j=x.ms.z j)(a:k.z x.ms.n=m):af (withMoves x k) (jf y m):=by
 refine⟨h.on,h.os,h.hs,⟨?_,λj hj => ?_⟩,h.si,h.so,h.sf⟩
 .show k.n=y.ms.n+1;rw[hn,h.ms.1]
 have c:j<x.ms.n+1:=aav;show k.z j=if j=y.ms.n then m else y.ms.z j;rw[<-h.ms.1];by_cases e:j=x.ms.n
 .rw[if_pos e,e];exact a
 rw[if_neg e,b j ow];exact h.ms.2 j ow
structure gx(p:Pl)(s y:St):Prop where
 r:am p y
 eq:y=withMoves s y.ms
 ge:s.ms.n<=y.ms.n
 pre:∀k,k<s.ms.n->y.ms.z k=s.ms.z k
 new:∀k,s.ms.n<=k->k<y.ms.n->∃b g f:Nat,(y.ms.z k).o=g/\(y.ms.z k).l=f/\(y.ms.z k).b=b/\f<p.nb/\b<p.nb/\g<p.ns/\(p.zb f).front=false/\(p.zb b).front=true/\ep y b g<=(p.zb b).high
 free:∀b,b<p.nb->gw p y b<=gw p s b/\(gw p y b<0->gw p y b=gw p s b)
theorem gx.refl(r:am p s):gx p s s:=⟨r,rfl,Nat.le_refl _,λ_ _=>rfl,λk c a=>absurd a ow,λb d=>⟨Int.le_refl _,λ_=>rfl⟩⟩
theorem awu{a z n:Int}(f:1<=z)(e:1<=n)(h:n<=a.tdiv z):n*z<=a:=by
 by_cases b:0<=a
 .rw[Int.tdiv_eq_ediv_of_nonneg b] at h;exact Int.le_trans (Int.mul_le_mul_of_nonneg_right h ow) (Int.ediv_mul_le a ow)
 have c:a.tdiv z = - ((-a).tdiv z):=by rw[Int.neg_tdiv];omega
 have d:0<=(-a).tdiv z:=Int.tdiv_nonneg ow ow;omega
theorem Yv(p:Pl)(s:St)(b g f:Nat):rq p s b g f<=(p.zb b).high-ep s b g/\rq p s b g f<=aq s f g/\rq p s b g f<=(gw p s b).tdiv (p.zs g):=by
 unfold rq;omega
theorem aq4(r:am p s)(c:g<p.ns)(hb:b<p.nb):rq p s b g f<=200:=by
 have F:=r.fm;have d:=(Yv p s b g f).1;have e:0<=ep s b g:=by
  unfold ep;have:=(F.sh.num b Ny g c).1;have:=(nd (s:=s) (b:=b) (g:=g) F.moveN).1;omega
 have a:=F.sh.pl.bins b hb;rw[Ht] at a;simp only[Xxq,Bool.not_eq_false'] at a;have:=ar a.1.2;omega
theorem gx.step(h:gx p s y)(o:b<p.nb)(i:(p.zb b).front=true)(d:g<p.ns)(t:f<p.nb)(a:(p.zb f).front=false):gx p s (qe p b g f y):=by
 unfold qe;by_cases c:y.ms.n<8/\1<=rq p y b g f;rotate_left
 .rw[if_neg c];exact h
 rw[if_pos c];have le:=Yv p y b g f;have u:¬f=b:=λe=>by rw[e,i] at a;cases a
 have bd:=aq4 (f:=f) h.r d o;obtain⟨c1,c2⟩:=c
 generalize rq p y b g f=n at *
 refine⟨Wi h.r c1 d t o u c2 bd le.2.1,?_,by show s.ms.n<=y.ms.n+1;have:=h.ge;omega,λk w => ?_,λk z A => ?_,λc hc => ?_⟩
 .rw[jf];conv=>lhs;rw[h.eq]
  rfl
 .rw[z9 y _ (by have:=h.ge;omega)];exact h.pre k w
 rotate_left
 .rw[Xx];obtain⟨L,M⟩:=h.free c hc;by_cases e:(b:Int)=(c:Int)
  .rw[if_pos e];have l:b=c:=ow;subst l;have x:=(h.r.fm.sh.pl.sizes g d).1;have:=awu x c2 le.2.2;have S:0<=n*p.zs g:=Int.mul_nonneg ow ow;show gw p y b-n*p.zs (g:Int).toNat<=_/\(gw p y b-n*p.zs (g:Int).toNat<0->_);rw[Int.toNat_natCast];omega
  rw[if_neg e,Int.sub_zero];exact⟨L,M⟩
 have Q:k<y.ms.n+1:=A;by_cases e:k=y.ms.n
 .rw[e,zg];refine⟨b,g,f,rfl,rfl,rfl,t,o,d,a,i,?_⟩;rw[Md,if_pos ⟨rfl,rfl⟩];have:=le.1;show ep y b g+n<=_;omega
 rw[z9 y _ ow];obtain⟨j,m,v,B,D,E,F,G,H,J,K,T⟩:=h.new k z ow;refine⟨j,m,v,B,D,E,F,G,H,J,K,?_⟩;rw[Md];by_cases q:(b:Int)=(j:Int)/\(g:Int)=(m:Int)
 .rw[if_pos q];have l:b=j:=ow;have e4:g=m:=ow;subst l e4;have:=le.1;show ep y b g+n<=_;omega
 rw[if_neg q];omega
theorem gx.F(h:gx p s y)(c:b<p.nb)(a:(p.zb b).front=true)(d:g<p.ns):∀(L:List (Bn p false)),gx p s (ka p b g L y):=by
 intro L
 induction L generalizing y with
 | nil=>exact h
 | cons f L ih=>exact ih (h.step c a d f.2.1 f.2.2)
theorem gx.G(h:gx p s y)(c:b<p.nb)(a:(p.zb b).front=true):∀{g:Nat},g<=p.ns->gx p s (jp p b g y)
 | 0,_=>h
 | g+1,hg=>by
  have d:=gx.G h c a (g:=g) ow;simp only[jp]
  split
  .exact d
  exact d.F c a ow _
theorem gx.B(h:gx p s y):∀(L:List (Bn p true)),gx p s (ox p L y):=by
 intro L
 induction L generalizing y with
 | nil=>exact h
 | cons b L ih=>exact ih (h.G b.2.1 b.2.2 nlr)
theorem ait(r:am p s):gx p s (Du p s):=(gx.refl r).B _
end
theorem af.lying{t:St}(h:af x t)(f:cu p t)(a:b<p.nb)(c:g<p.ns):ep x b g=ep t b g:=by
 unfold ep;rw[h.num f a c,h.ms.1,It (x:=x) (s:=t) λj hj=>h.ms.2 j Nz]
theorem Kg{t:St}(h:af x t)(F:cu p t){f:Nat}(a:b<p.nb)(c:g<p.ns)(d:f<p.nb):rq p x b g f=rq p t b g f:=by
 unfold rq;rw[h.lying F a c,h.avail F d c,h.free F a]
def Ew(h:Hs)(k:Nat):Hs:=⟨h.a,h.n-1,h.c,λi=>if i<k then h.z i else h.z (i+1)⟩
def gj(p:Pl)(s:St)(k n:Int):Int :=
 if ag p s=0 then(if inB k 0 ((s.ms.n:Int)-1) then(if inB n 0 (s.ms.z k.toNat).n then(if 200<(s.on.r (s.ms.z k.toNat).b.toNat).z (s.ms.z k.toNat).o.toNat+n then 2 else 0) else 3) else 4) else ag p s
def zu(s:St)(h:Hs)(f b g:Nat)(n:Int):St:=setOn (setOn (withMoves s h) f g ((s.on.r f).z g-n)) b g ((s.on.r b).z g+n)
def li(s:St)(k:Nat)(n:Int):St:=zu s (Ew s.ms k) (s.ms.z k).l.toNat (s.ms.z k).b.toNat (s.ms.z k).o.toNat n
section
variable {p:Pl} {s x:St} {k:Nat} {n:Int}
theorem Cp{k:Int}(h:¬ag p s=0):gj p s k n=ag p s:=by unfold gj;rw[if_neg h]
theorem Ix{k:Int}(h:ag p s=0)(a:inB k 0 ((s.ms.n:Int)-1)=false):gj p s k n=4:=by unfold gj;rw[if_pos h,a];rfl
theorem Gu{k:Int}(h:ag p s=0)(a:inB k 0 ((s.ms.n:Int)-1)=true)(b:inB n 0 (s.ms.z k.toNat).n=false):gj p s k n=3:=by unfold gj;rw[if_pos h,a,b];rfl
theorem Iw{k:Int}(h:ag p s=0)(a:inB k 0 ((s.ms.n:Int)-1)=true)(c:inB n 0 (s.ms.z k.toNat).n=true)(d:200<(s.on.r (s.ms.z k.toNat).b.toNat).z (s.ms.z k.toNat).o.toNat+n):gj p s k n=2:=by unfold gj;rw[if_pos h,a,c,if_pos d];rfl
theorem Vx{k:Int}(h:ag p s=0)(a:inB k 0 ((s.ms.n:Int)-1)=true)(c:inB n 0 (s.ms.z k.toNat).n=true)(d:¬200<(s.on.r (s.ms.z k.toNat).b.toNat).z (s.ms.z k.toNat).o.toNat+n):gj p s k n=0:=by unfold gj;rw[if_pos h,a,c,if_neg d];rfl
structure sd(p:Pl)(s:St)(k f b g:Nat)(N n:Int):Prop where
 r:am p s
 kn:k<s.ms.n
 m:s.ms.z k=⟨g,f,b,N⟩
 fn:f<p.nb
 bn:b<p.nb
 gn:g<p.ns
 ne:¬f=b
 n0:0<=n
 nN:n<=N
 N1:1<=N
 N2:N<=200
 to:(s.on.r b).z g+n<=200
theorem ad6{k:Int}(h:gj p s k n=0):ag p s=0/\∃(i f b g:Nat) (N:Int),k=i/\sd p s i f b g N n:=by
 by_cases a:ag p s=0
 .refine⟨a,?_⟩;cases c:inB k 0 ((s.ms.n:Int)-1)
  .rw[Ix a c] at h;cases h
  cases d:inB n 0 (s.ms.z k.toNat).n
  .rw[Gu a c d] at h;cases h
  by_cases m:200<(s.on.r (s.ms.z k.toNat).b.toNat).z (s.ms.z k.toNat).o.toNat+n
  .rw[Iw a c d m] at h;cases h
  have r:=et a;have x:=ar c;have j:=ar d;have e:k.toNat<s.ms.n:=ow;obtain⟨q,t,u,y,v,w⟩:=sl (r.fm.move k.toNat e);refine⟨k.toNat,(s.ms.z k.toNat).l.toNat,(s.ms.z k.toNat).b.toNat,(s.ms.z k.toNat).o.toNat,(s.ms.z k.toNat).n,ow,r,e,?_,ow,ow,ow,ow,j.1,j.2,v,w,ow⟩;rw[Int.toNat_of_nonneg q.1,Int.toNat_of_nonneg t.1,Int.toNat_of_nonneg u.1]
 rw[Cp a] at h;exact absurd h a
end
section
variable {p:Pl} {s x:St} {k f b g:Nat} {N n:Int}
theorem sd.T(h:sd p s k f b g N n):li s k n=zu s (Ew s.ms k) f b g n:=by
 unfold li;rw[h.m];simp only[Int.toNat_natCast]
theorem Ie(s:St)(b g:Nat)(v:Int)(i j:Nat):((setOn s b g v).on.r i).z j=if i=b/\j=g then v else(s.on.r i).z j:=by
 show(if i=b then mg (s.on.r i) g v else s.on.r i).z j=_;by_cases hi:i=b
 .rw[if_pos hi];show(if j=g then v else(s.on.r i).z j)=_;by_cases hj:j=g
  .rw[if_pos hj,if_pos ⟨hi,hj⟩]
  exact aci
 rw[if_neg hi,if_neg (λe=>hi e.1)]
theorem vr(s:St)(b g:Nat)(v:Int)(i:Nat):((setOn s b g v).on.r i).n=(s.on.r i).n:=by
 show(if i=b then mg (s.on.r i) g v else s.on.r i).n=_;exact apy
theorem Ia(h:sd p s k f b g N n)(i j:Nat):((li s k n).on.r i).z j=(s.on.r i).z j+if j=g then(if i=b then n else if i=f then -n else 0) else 0:=by
 have e:=h.ne;rw[h.T,zu,Ie,Ie,show(withMoves s (Ew s.ms k)).on=s.on from rfl];by_cases d:j=g
 .subst d;by_cases a:i=b
  .subst a;simp
  by_cases c:i=f
  .subst c;simp[a];omega
  simp[a,c]
 simp[d]
theorem aje(h:sd p s k f b g N n)(i:Nat):((li s k n).on.r i).n=(s.on.r i).n:=by
 rw[h.T,zu,vr,vr];rfl
theorem P7(h:sd p s k f b g N n):(li s k n).ms=Ew s.ms k:=rfl
theorem Yn{b g:Int}{x s:St}(c:∀i,x.ms.z i=if i<k then s.ms.z i else s.ms.z (i+1)):∀m,(m<=k->bp x b g m=bp s b g m)/\(k<=m->bp x b g m+(if (s.ms.z k).l=b/\(s.ms.z k).o=g then(s.ms.z k).n else 0)=bp s b g (m+1))
 | 0=>⟨λ_=>rfl,λh=>by
  rw[show k=0 by omega];simp[bp]⟩
 | m+1=>by
  obtain⟨d,p⟩:=Yn (b:=b) (g:=g) c m;refine⟨λh => ?_,λh => ?_⟩
  .have e0:x.ms.z m=s.ms.z m:=akk;simp only[bp];rw[d ow,e0]
  by_cases e:k=m+1
  .have:bp x b g (m+1)=bp s b g (m+1):=by
    have e0:x.ms.z m=s.ms.z m:=akk;simp only[bp];rw[d ow,e0]
   rw[this,e];simp only[bp]
  have a:=p ow;have f:bp x b g (m+1)=bp x b g m+(if (s.ms.z (m+1)).l=b/\(s.ms.z (m+1)).o=g then(s.ms.z (m+1)).n else 0):=by
   have e0:x.ms.z m=s.ms.z (m+1):=by rw[c m];exact if_neg ow
   simp only[bp];rw[e0]
  have j:bp s b g (m+1+1)=bp s b g (m+1)+(if (s.ms.z (m+1)).l=b/\(s.ms.z (m+1)).o=g then(s.ms.z (m+1)).n else 0):=rfl;rw[f,j,<-a];omega
theorem afu(h:sd p s k f b g N n)(c j:Nat):bp (li s k n) c j (li s k n).ms.n+(if f=c/\g=j then N else 0)=bp s c j s.ms.n:=by
 have a:=h.kn;have:=(Yn (b:=(c:Int)) (g:=(j:Int)) (x:=li s k n) (s:=s) (k:=k) (λi=>by rw[P7 h];rfl) (s.ms.n-1)).2 ow;rw[show s.ms.n-1+1=s.ms.n by omega,h.m] at this;rw[P7 h];show bp (li s k n) c j (s.ms.n-1)+_=_;rw[<-this]
 congr 1
 by_cases e:f=c/\g=j
 .rw[if_pos e,if_pos (by simp[e.1,e.2])]
 rw[if_neg e,if_neg oq]
theorem afv(h:sd p s k f b g N n)(c j:Int):ce (li s k n) c j (li s k n).hs.n=ce s c j s.hs.n:=ui (x:=li s k n) (s:=s) (λ_ _=>rfl) (λ_ _=>rfl)
theorem adn(h:sd p s k f b g N n)(c j:Nat):aq (li s k n) c j=aq s c j+if j=g then(if c=b then n else if c=f then N-n else 0) else 0:=by
 unfold aq;have a:=afu h c j;have q:=h.ne;rw[afv h,Ia h,<-a];by_cases l:j=g
 .subst l;by_cases d:c=b
  .subst d;simp[q];omega
  by_cases i:c=f
  .subst i;simp[d];omega
  have m:¬f=c:=λe=>i e.symm;simp[d,i,m]
 have o:¬g=j:=λe=>l e.symm;simp[l,o]
theorem Vj{s:St}{b g:Int}:∀{m:Nat},(∀j,j<m->1<=(s.ms.z j).n/\(s.ms.z j).n<=200)->∀{k:Nat},k<m->(s.ms.z k).l=b->(s.ms.z k).o=g->(s.ms.z k).n<=bp s b g m
 | m+1,h,k,hk,h1,h2=>by
  have bd:=(lm (s:=s) (b:=b) (g:=g) (n:=m) λj a=>h j ow).1;by_cases e:k=m
  .subst e;rw[Ki h1 h2];omega
  have c:=Vj (b:=b) (g:=g) (m:=m) (λj a=>h j ow) (k:=k) ow h1 h2;have:=(h m ow).1;simp only[bp]
  split<;>omega
theorem ado(h:sd p s k f b g N n):am p (li s k n):=by
 have r:=h.r;have F:=r.fm;have t:=h.fn;have hb:=h.bn;have v:=h.gn;have n0:=h.n0;have nN:=h.nN;have to:=h.to;have y:=h.ne;have on:N<=(s.on.r f).z g:=by
  have a:=(mv (r.goods g v)).2 f t;have b1:=(pd (s:=s) (b:=f) (g:=g) F.holdN).1;have c:=Vj (s:=s) (b:=f) (g:=g) F.moveN h.kn (by rw[h.m]) (by rw[h.m]);rw[h.m] at c;unfold aq at a;have A:N<=bp s f g s.ms.n:=c;omega
 have hs:yf p (li s k n).on:=by
  refine⟨F.sh.pl,F.sh.n,λi hi=>by rw[aje h];exact F.sh.len i hi,λi hi j l => ?_⟩;have q:=F.sh.num i hi j l;rw[Ia h];by_cases d:j=g
  .subst d;by_cases e:i=b
   .subst e;simp;omega
   by_cases o:i=f
   .subst o;simp[e];omega
   simp[e,o];omega
  simp[d];omega
 refine⟨⟨hs,zw (yg F.sh0).1 hs,F.os4,by show s.ms.n-1<=8;have:=F.ms8;omega,F.lns,F.kind,F.line,F.hold,F.home,λi hi => ?_,F.sin,F.son,F.sfn,F.sib,F.sob,F.sfb⟩,λj l => ?_,r.orders⟩
 .have x:i<s.ms.n-1:=hi;rw[P7 h];show nt p (if i<k then s.ms.z i else s.ms.z (i+1))=false
  split
  .exact F.move i ow
  exact F.move (i+1) ow
 obtain⟨a1,u⟩:=mv (r.goods j l);refine ut ?_ λi hi => ?_
 .show cq (λi=>((li s k n).on.r i).z j) s.on.n=s.si.z j-s.so.z j+s.sf.z j;rw[<-a1];by_cases d:j=g
  .have B:=uv (z:=λi=>(s.on.r i).z j) (z':=λi=>(s.on.r i).z j+if i=f then -n else 0) (m:=f) (n := -n) (k:=s.on.n) (by rw[F.sh.n];exact t) λi _=>rfl;have D:=uv (z:=λi=>(s.on.r i).z j+if i=f then -n else 0) (z':=λi=>((li s k n).on.r i).z j) (m:=b) (n:=n) (k:=s.on.n) Ny λi _=>by
    rw[Ia h,if_pos d];by_cases e:i=b
    .have w:¬i=f:=ow;simp[e]<;>omega
    simp[e]
   omega
  exact wu λi _=>by rw[Ia h,if_neg d,Int.add_zero]
 rw[adn h];have:=u i hi;by_cases d:j=g
 .rw[if_pos d]
  split
  .omega
  split<;>omega
 rw[if_neg d];omega
theorem Uv{t:St}(h:af x t){k a:Hs}(b:k.n=a.n)(c:∀j,j<k.n->k.z j=a.z j):af (withMoves x k) (withMoves t a):=⟨h.on,h.os,h.hs,⟨b,c⟩,h.si,h.so,h.sf⟩
theorem Iy(h:sd p s k f b g N n)(e:af x s){q:Hs}(a:q.n=s.ms.n-1)(c:∀j,j<q.n->q.z j=(Ew s.ms k).z j):af (zu x q f b g n) (li s k n):=by
 rw[h.T];unfold zu;rw[e.num h.r.fm h.fn h.gn,e.num h.r.fm h.bn h.gn];exact Am (Am (Uv e a c) _ _ _) _ _ _
end
def cx(b g:Int)(m:Hd):Bool:=(m.l==b)&&(m.o==g)
def cg(s:St)(b g:Int)(h:Hd):Bool:=(h.b==b)&&(kf s h==g)
def ar6(f:Hd->Bool)(h:Hs)(m:Int):Hs:=⟨h.a,h.n,h.c,mt f h.n m h.z⟩
def db(f:Hd->Bool)(h:Hs)(m:Int):Hs:=eu (ar6 f h m) vd
def sq(s:St):List Hd:=cz s.ms.z s.ms.n
def pg(s:St):List Hd:=cz s.hs.z s.hs.n
def ww(x:Hd)(d:Int):Hd:=⟨x.o,x.l,x.b,x.n+d⟩
def Je(os:Os)(q:Int->Int->Int):Os:=⟨os.a,os.n,os.c,λi=>⟨(os.z i).k,⟨(os.z i).ls.a,(os.z i).ls.n,(os.z i).ls.c,λj=>ww ((os.z i).ls.z j) (q i j)⟩⟩⟩
def i5(s:St)(b g M:Int):Int:=wv (cx b g) M (sq s)
def fa(s:St)(b g M:Int):Int->Int->Int:=mx (cg s b g) (i5 s b g M) (pg s)
def jn(s:St)(b g M:Int):St:=⟨s.on,Je s.os (fa s b g M),db (cg s b g) s.hs (i5 s b g M),db (cx b g) s.ms M,s.si,s.so,s.sf⟩
def setFix(s:St)(g:Nat)(x:Int):St:=⟨s.on,s.os,s.hs,s.ms,s.si,s.so,mg s.sf g x⟩
def kw(s:St)(b g:Nat)(seen:Int):St:=setFix (setOn s b g seen) g (s.sf.z g+(seen-(s.on.r b).z g))
def pk(s:St)(b g:Nat):Int:=ce s b g s.hs.n+bp s b g s.ms.n
def fg(s:St)(b g:Nat)(seen:Int):Int:=max 0 (pk s b g-seen)
def qz(s:St)(b g:Nat)(seen:Int):St:=kw (jn s b g (fg s b g seen)) b g seen
def Jf(s:St)(b g:Nat)(seen:Int)(i j:Nat):Int:=fa s b g (fg s b g seen) i j
def qd(p:Pl)(s:St)(b g:Nat)(seen:Int):St:=aev p b (Jf s b g seen) (Cs s) s.os.n (qz s b g seen)
def fs(p:Pl)(s:St)(bin good seen:Int):Int :=
 if ag p s=0 then(if inB bin 0 ((p.nb:Int)-1)&&inB good 0 ((p.ns:Int)-1)&&inB seen 0 200 then(if inB (s.sf.z good.toNat+(seen-(s.on.r bin.toNat).z good.toNat)) (-1048576) 1048576 then 0 else 2) else 3) else ag p s
theorem Ca{b g:Int}{m:Hd}:cx b g m=true↔m.l=b/\m.o=g:=by unfold cx;simp
theorem zo{b g:Int}:cg s b g h=true↔h.b=b/\kf s h=g:=by unfold cg;simp
theorem uh(b g:Int):Qk (cx b g):=λ_ _=>rfl
theorem Dv(s:St)(b g:Int):Qk (cg s b g):=λ_ _=>rfl
theorem xu(s:St)(b g:Int):∀n,bp s b g n=fl (cx b g) (cz s.ms.z n)
 | 0=>rfl
 | n+1=>by
  show bp s b g n+_=fl (cx b g) (cz s.ms.z n)+_;rw[xu s b g n];by_cases c:(s.ms.z n).l=b/\(s.ms.z n).o=g
  .rw[if_pos c,if_pos (Ca.2 c)]
  rw[if_neg c,if_neg (λe=>c (Ca.1 e))]
theorem Gl(s:St)(b g:Int):∀n,ce s b g n=fl (cg s b g) (cz s.hs.z n)
 | 0=>rfl
 | n+1=>by
  show ce s b g n+_=fl (cg s b g) (cz s.hs.z n)+_;rw[Gl s b g n];by_cases c:(s.hs.z n).b=b/\kf s (s.hs.z n)=g
  .rw[if_pos c,if_pos (zo.2 c)]
  rw[if_neg c,if_neg (λe=>c (zo.1 e))]
theorem H5(z:Nat->Hd)(o l:Int):∀n,keptS z o l n=fl (Da o l) (cz z n)
 | 0=>rfl
 | n+1=>by
  show keptS z o l n+_=fl (Da o l) (cz z n)+_;rw[H5 z o l n];by_cases c:(z n).o=o/\(z n).l=l
  .rw[if_pos c,if_pos (Db.2 c)]
  rw[if_neg c,if_neg (λe=>c (Db.1 e))]
theorem Vc(h:Hs)(bad:Hd->Bool):cz (eu h bad).z (eu h bad).n=(cz h.z h.n).filter (λx => !bad x):=by
 rw[Nk,Nk,List.filter_reverse]
 congr 1
 exact Q3 h bad
theorem aip{h:Hs}{bad:Hd->Bool}(hi:i<(eu h bad).n):∃j,j<h.n/\(eu h bad).z i=h.z j/\bad (h.z j)=false:=by
 have a:(eu h bad).z i∈cz (eu h bad).z (eu h bad).n:=Zu hi;rw[Vc,List.mem_filter] at a;obtain⟨j,b,e⟩:=Bz a.1;exact⟨j,b,e.symm,by rw[e];simpa using a.2⟩
theorem mn(f:Hd->Bool)(h:Hs)(m:Int):cz (db f h m).z (db f h m).n=flt (i8 f m (cz h.z h.n)):=by
 unfold db;rw[Vc];show(cz (mt f h.n m h.z) h.n).filter _=_;rw[P2]
 rfl
theorem U9{f:Hd->Bool}{h:Hs}{m:Int}(p:0<=m)(q:∀j,j<h.n->0<=(h.z j).n)(hi:i<(db f h m).n):∃j,j<h.n/\((db f h m).z i).o=(h.z j).o/\((db f h m).z i).l=(h.z j).l/\((db f h m).z i).b=(h.z j).b/\1<=((db f h m).z i).n/\((db f h m).z i).n<=(h.z j).n:=by
 obtain⟨j,c,e,g⟩:=aip hi;have k:=Kb f h.n m h.z p q j;have d:(db f h m).z i=mt f h.n m h.z j:=e;have a:vd (mt f h.n m h.z j)=false:=g;rw[d];unfold vd at a;have r:¬(mt f h.n m h.z j).n=0:=by simpa using a
 have:=k.2.1 c;exact⟨j,c,k.1.1,k.1.2.1,k.1.2.2,ow,k.2.2⟩
theorem ada{f:Hd->Bool}{h:Hs}{m:Int}(g:0<=m)(b:aw h.n (df h.z)=false):aw (db f h m).n (df (db f h m).z)=false:=by
 have l:∀j,j<h.n->0<=(h.z j).n:=λj a=>by have:=(cw (cd b j a)).2.2.2;omega
 have k:=Kb f h.n m h.z g l;refine M7 (λi j c a => ?_) λi hi d => ?_
 .have e:∀q,bj ((ar6 f h m).z q)=bj (h.z q):=λq=>by
   show bj (mt f h.n m h.z q)=_;unfold bj;rw[(k q).1.1,(k q).1.2.1,(k q).1.2.2]
  rw[e,e];exact re b i j c a
 have q:=k i;have fn:=cw (cd b i hi);have o:¬(mt f h.n m h.z i).n=0:=by
  have:vd (mt f h.n m h.z i)=false:=d;unfold vd at this
  simpa using this
 have:=q.2.1 hi;show il (mt f h.n m h.z i)=true;unfold il;rw[q.1.1,q.1.2.1,q.1.2.2,cy fn.1,cy fn.2.1,cy fn.2.2.1,cy ow]
 rfl
section
variable {p:Pl} {s:St} {b g M:Int}
theorem am.moves0(r:am p s):∀h,h∈sq s->1<=h.n:=λh a=>by
 obtain⟨j,b,e⟩:=Bz a;have:=r.fm.moveN j b;rw[<-e];omega
theorem am.holds0(r:am p s):∀h,h∈pg s->1<=h.n:=λh a=>by
 obtain⟨j,b,e⟩:=Bz a;have:=r.fm.holdN j b;rw[<-e];omega
theorem am.movesP(r:am p s):yu (sq s):=λh a=>by have:=r.moves0 h a;omega
theorem am.holdsP(r:am p s):yu (pg s):=λh a=>by have:=r.holds0 h a;omega
theorem se(r:am p s)(c:0<=M):i5 s b g M=M-min M (bp s b g s.ms.n)/\0<=i5 s b g M:=by
 have e:=(wo (uh b g) r.movesP c).2;have k:=Dl (P:=cx b g) r.movesP;have d:i5 s b g M=M-min M (fl (cx b g) (sq s)):=e;rw[xu];have a:fl (cx b g) (cz s.ms.z s.ms.n)=fl (cx b g) (sq s):=rfl;rw[a];omega
theorem Yl(s:St)(b g M:Int)(o l:Int):keptS (jn s b g M).hs.z o l (jn s b g M).hs.n=keptS s.hs.z o l s.hs.n-fa s b g M o l:=by
 rw[H5,H5];show fl _ (cz (db (cg s b g) s.hs (i5 s b g M)).z (db (cg s b g) s.hs (i5 s b g M)).n)=_;rw[mn,xz,Nu]
 rfl
theorem C6(r:am p s)(a:0<=M)(o l:Int):0<=fa s b g M o l/\fa s b g M o l<=keptS s.hs.z o l s.hs.n:=by
 have c:=Oi (cg s b g) o l r.holdsP (se (b:=b) (g:=g) r a).2;refine⟨c,?_⟩;have e:=Yl s b g M o l;have f:0<=fl (Da o l) (flt (i8 (cg s b g) (i5 s b g M) (pg s))):=by
  rw[xz];exact Dl (Gf _ r.holdsP (se r a).2)
 rw[H5] at e;have d:fl (Da o l) (cz (jn s b g M).hs.z (jn s b g M).hs.n)=fl (Da o l) (flt (i8 (cg s b g) (i5 s b g M) (pg s))):=by
  show fl _ (cz (db (cg s b g) s.hs (i5 s b g M)).z (db (cg s b g) s.hs (i5 s b g M)).n)=_;rw[mn]
  rfl
 omega
theorem Yk(r:am p s)(k:0<=M)(d e:Int):ce (jn s b g M) d e (jn s b g M).hs.n=ce s d e s.hs.n-if d=b/\e=g then min (i5 s b g M) (ce s b g s.hs.n) else 0:=by
 rw[Gl,Gl];have i:cg (jn s b g M) d e=cg s d e:=rfl;rw[i];show fl _ (cz (db (cg s b g) s.hs (i5 s b g M)).z (db (cg s b g) s.hs (i5 s b g M)).n)=_;rw[mn,xz];have j:cz s.hs.z s.hs.n=pg s:=rfl;rw[j];by_cases c:d=b/\e=g
 .rw[if_pos c,c.1,c.2,(wo (Dv s b g) r.holdsP (se (b:=b) (g:=g) r k).2).1,Gl]
  rfl
 rw[if_neg c,Int.sub_zero];exact Fv (λh m=>by
  cases l:cg s b g h
  .rfl
  have a:=zo.1 m;have f:=zo.1 l;exact absurd ⟨a.1.symm.trans f.1,a.2.symm.trans f.2⟩ c) (Dv s d e) _ _
theorem Yj(r:am p s)(j:0<=M)(d e:Int):bp (jn s b g M) d e (jn s b g M).ms.n=bp s d e s.ms.n-if d=b/\e=g then min M (bp s b g s.ms.n) else 0:=by
 rw[xu,xu];show fl _ (cz (db (cx b g) s.ms M).z (db (cx b g) s.ms M).n)=_;rw[mn,xz];have i:cz s.ms.z s.ms.n=sq s:=rfl;rw[i];by_cases c:d=b/\e=g
 .rw[if_pos c,c.1,c.2,(wo (uh b g) r.movesP j).1,xu]
  rfl
 rw[if_neg c,Int.sub_zero];exact Fv (λh l=>by
  cases k:cx b g h
  .rfl
  have a:=Ca.1 l;have f:=Ca.1 k;exact absurd ⟨a.1.symm.trans f.1,a.2.symm.trans f.2⟩ c) (uh d e) _ _
theorem Vt(r:am p s)(hi:i<s.os.n)(e:j<(s.os.z i).ls.n):keptS s.hs.z i j s.hs.n=0\/(s.os.z i).k=1/\((s.os.z i).ls.z j).b+((s.os.z i).ls.z j).n+keptS s.hs.z i j s.hs.n=((s.os.z i).ls.z j).l:=by
 have w:=r.orders i hi;unfold cp at w;rw[Xxq] at w;have a:dh (s.os.z i).k ((s.os.z i).ls.z j) (keptS s.hs.z i j s.hs.n)=false:=dv w.2 j e;have kd:=r.fm.kind i hi;unfold dh at a;by_cases c:(s.os.z i).k=0
 .rw[if_pos c] at a;exact aom
 rw[if_neg c] at a;by_cases d:(s.os.z i).k=2
 .rw[if_pos d] at a;exact aom
 rw[if_neg d] at a;simp only[Bool.not_eq_false',beq_iff_eq] at a;exact Or.inr ⟨ow,a⟩
theorem Kc(r:am p s)(v:0<=M):cu p (jn s b g M):=by
 have f:=r.fm;have x:∀j,j<s.hs.n->0<=(s.hs.z j).n:=λj a=>by have:=f.holdN j a;omega
 have y:∀j,j<s.ms.n->0<=(s.ms.z j).n:=λj a=>by have:=f.moveN j a;omega
 have w:=(se (b:=b) (g:=g) r v).2;refine⟨f.sh,f.sh0,f.os4,Qzx (C7 _ _) f.ms8,f.lns,f.kind,λi hi j a => ?_,ada w f.hold,λi hi => ?_,λi hi => ?_,f.sin,f.son,f.sfn,f.sib,f.sob,f.sfb⟩
 .obtain⟨b1,b2,b3,b4⟩:=fi (f.line i hi j a);have q:=C6 (b:=b) (g:=g) r v i j;have k:=Vt r hi a;show mq p (ww ((s.os.z i).ls.z j) (fa s b g M i j))=false;unfold mq ww;exact S9
 .obtain⟨j,a,m,t,u,-,-⟩:=U9 w x hi;have h:=je (f.home j a);have c:((jn s b g M).hs.z i).o=(s.hs.z j).o:=m;have d:((jn s b g M).hs.z i).l=(s.hs.z j).l:=t;have e:((jn s b g M).hs.z i).b=(s.hs.z j).b:=u;refine sp ?_ ?_ ?_
  .rw[c];exact h.1
  .rw[c,d];exact h.2.1
  rw[e];exact h.2.2
 obtain⟨j,a,m,t,u,e4,e5⟩:=U9 v y hi;have h:=sl (f.move j a);have c:((jn s b g M).ms.z i).o=(s.ms.z j).o:=m;have d:((jn s b g M).ms.z i).l=(s.ms.z j).l:=t;have e:((jn s b g M).ms.z i).b=(s.ms.z j).b:=u;have A:1<=((jn s b g M).ms.z i).n:=e4;have B:((jn s b g M).ms.z i).n<=(s.ms.z j).n:=e5
 generalize (jn s b g M).ms.z i=X at *
 unfold nt;rw[c,d,e,cy ow,cy ow,cy ow,cy ow]
 simpa using h.2.2.2.1
theorem ae5(r:am p s)(e:0<=M)(i:Nat)(hi:i<s.os.n):cp (jn s b g M) i=false:=by
 have w:=r.orders i hi;unfold cp at w ⊢;rw[Xxq] at w ⊢;refine⟨w.1,dj λj f => ?_⟩;have a:dh (s.os.z i).k ((s.os.z i).ls.z j) (keptS s.hs.z i j s.hs.n)=false:=dv w.2 j f;rw[Yl];show dh (s.os.z i).k (ww ((s.os.z i).ls.z j) (fa s b g M i j)) _=false;have q:=C6 (b:=b) (g:=g) r e i j;unfold dh ww at *;by_cases c:(s.os.z i).k=0
 .rw[if_pos c] at a ⊢;exact aot
 rw[if_neg c] at a ⊢;by_cases d:(s.os.z i).k=2
 .rw[if_pos d] at a ⊢;exact aot
 rw[if_neg d] at a ⊢;simp only[Bool.not_eq_false',beq_iff_eq] at a ⊢;omega
end
section
variable {p:Pl} {s:St} {b g:Nat} {M seen:Int}
theorem Vb(r:am p s)(a:0<=M)(c k:Nat):aq (jn s b g M) c k=aq s c k+if c=b/\k=g then min M (pk s b g) else 0:=by
 have f:=Yk (b:=b) (g:=g) r a c k;have i:=Yj (b:=b) (g:=g) r a c k;have j:=se (b:=b) (g:=g) r a;have l:=(pd (s:=s) (b:=b) (g:=g) (n:=s.hs.n) r.fm.holdN).1;have m:=(lm (s:=s) (b:=b) (g:=g) (n:=s.ms.n) r.fm.moveN).1;unfold aq pk;rw[f,i];show(s.on.r c).z k-_-_=_;by_cases e:c=b/\k=g
 .rw[if_pos e,if_pos ow,if_pos ow,j.1];omega
 rw[if_neg e,if_neg (λd=>e ow),if_neg (λd=>e ow)];omega
theorem ail(r:am p s)(a:0<=M):am p (jn s b g M):=by
 refine⟨Kc r a,λk e => ?_,λi hi=>ae5 r a i hi⟩;obtain⟨a1,d⟩:=mv (r.goods k e);refine ut a1 λc hc => ?_;rw[Vb r a];have:=d c hc;have f:=(pd (s:=s) (b:=b) (g:=g) (n:=s.hs.n) r.fm.holdN).1;have h:=(lm (s:=s) (b:=b) (g:=g) (n:=s.ms.n) r.fm.moveN).1;unfold pk
 split<;>omega
theorem xq(s:St)(b g:Nat)(seen:Int)(i j:Nat):((kw s b g seen).on.r i).z j=if i=b/\j=g then seen else(s.on.r i).z j:=Ie s b g seen i j
theorem Ph(s:St)(b g:Nat)(seen:Int)(c k:Nat):aq (kw s b g seen) c k=aq s c k+if c=b/\k=g then seen-(s.on.r b).z g else 0:=by
 have a:ce (kw s b g seen) c k (kw s b g seen).hs.n=ce s c k s.hs.n:=ui (x:=kw s b g seen) (s:=s) (λ_ _=>rfl) (λ_ _=>rfl);have d:bp (kw s b g seen) c k (kw s b g seen).ms.n=bp s c k s.ms.n:=rm (x:=kw s b g seen) (s:=s) (λ_ _=>rfl);unfold aq;rw[a,d,xq];by_cases e:c=b/\k=g
 .rw[if_pos e,if_pos e,e.1,e.2];omega
 rw[if_neg e,if_neg e];omega
theorem adi(r:am p s)(hb:b<p.nb)(y:g<p.ns)(w:0<=seen)(x:seen<=200)(t : -1048576<=s.sf.z g+(seen-(s.on.r b).z g)/\s.sf.z g+(seen-(s.on.r b).z g)<=1048576)(o:0<=aq s b g+(seen-(s.on.r b).z g)):am p (kw s b g seen):=by
 have f:=r.fm;have d:yf p (kw s b g seen).on:=⟨f.sh.pl,f.sh.n,λi hi=>(vr s b g seen i).trans (f.sh.len i hi),λi hi j a=>by
  rw[xq];have v:=f.sh.num i hi j a;by_cases c:i=b/\j=g
  .rw[if_pos c];omega
  rw[if_neg c];exact v⟩
 refine⟨⟨d,zw (yg f.sh0).1 d,f.os4,f.ms8,f.lns,f.kind,f.line,f.hold,f.home,f.move,f.sin,f.son,f.sfn,f.sib,f.sob,λj a => ?_⟩,λk u => ?_,r.orders⟩
 .show -1048576<=(if j=g then _ else s.sf.z j)/\(if j=g then _ else s.sf.z j)<=1048576;have:=f.sfb j a
  split
  .exact t
  exact this
 obtain⟨a1,l⟩:=mv (r.goods k u);refine ut ?_ λc hc => ?_
 .show cq _ s.on.n=s.si.z k-s.so.z k+(if k=g then _ else s.sf.z k);by_cases q:k=g
  .rw[if_pos q];have e:=uv (z:=λi=>(s.on.r i).z k) (z':=λi=>((kw s b g seen).on.r i).z k) (m:=b) (n:=seen-(s.on.r b).z g) (k:=s.on.n) G8 (λi hi=>by
    rw[xq];by_cases c:i=b
    .rw[if_pos ⟨c,q⟩,if_pos c,c,q];omega
    rw[if_neg (λe=>c e.1),if_neg c,Int.add_zero])
   rw[e,a1,q];show _=_-_+(s.sf.z g+(seen-(s.on.r b).z g));omega
  rw[if_neg q,<-a1];exact vt λi hi=>by rw[xq,if_neg (λe=>q e.2)]
 rw[Ph];have:=l c hc;by_cases e:c=b/\k=g
 .rw[if_pos e,e.1,e.2];exact o
 rw[if_neg e];omega
structure dr(p:Pl)(s:St)(b g:Nat)(seen:Int):Prop where
 r:am p s
 bn:b<p.nb
 gn:g<p.ns
 s0:0<=seen
 s1:seen<=200
 fx : -1048576<=s.sf.z g+(seen-(s.on.r b).z g)/\s.sf.z g+(seen-(s.on.r b).z g)<=1048576
theorem adz{bin good:Int}(h:fs p s bin good seen=0):ag p s=0/\∃b g:Nat,bin=b/\good=g/\dr p s b g seen:=by
 unfold fs at h;by_cases h0:ag p s=0
 .rw[if_pos h0] at h;cases a:(inB bin 0 ((p.nb:Int)-1)&&inB good 0 ((p.ns:Int)-1)&&inB seen 0 200)
  .rw[a,if_neg dc] at h;exact absurd h dc
  rw[a] at h;simp only[Xxx] at a;have e:=ar a.1.1;have f:=ar a.1.2;have d:=ar a.2;cases c:inB (s.sf.z good.toNat+(seen-(s.on.r bin.toNat).z good.toNat)) (-1048576) 1048576
  .rw[c] at h;exact absurd h dc
  have i:=ar c;obtain⟨b,rfl⟩:=Qzz e.1;obtain⟨g,rfl⟩:=Qzz f.1;exact⟨h0,b,g,rfl,rfl,et h0,ow,ow,d.1,d.2,i⟩
 exact Tc
theorem dr.miss0(h:dr p s b g seen):0<=fg s b g seen:=by unfold fg;omega
theorem dr.bound(h:dr p s b g seen):0<=pk s b g/\pk s b g=(s.on.r b).z g-aq s b g:=by
 have a:=(pd (s:=s) (b:=b) (g:=g) (n:=s.hs.n) h.r.fm.holdN).1;have c:=(lm (s:=s) (b:=b) (g:=g) (n:=s.ms.n) h.r.fm.moveN).1;unfold pk aq;omega
theorem dr.cutAv(h:dr p s b g seen):aq (jn s b g (fg s b g seen)) b g=aq s b g+fg s b g seen:=by
 rw[Vb h.r h.miss0,if_pos ⟨rfl,rfl⟩];have:=h.bound;have:=h.s0;unfold fg;omega
theorem dr.right(h:dr p s b g seen):am p (qz s b g seen):=by
 refine adi (ail h.r h.miss0) h.bn h.gn h.s0 h.s1 h.fx ?_;rw[h.cutAv];show 0<=_+(seen-(s.on.r b).z g);have:=h.bound;unfold fg;omega
theorem dr.av(h:dr p s b g seen):aq (qz s b g seen) b g=max (seen-pk s b g) 0:=by
 unfold qz;rw[Ph,if_pos ⟨rfl,rfl⟩,h.cutAv];show _+(seen-(s.on.r b).z g)=_;have:=h.bound;unfold fg;omega
theorem dr.qin(h:dr p s b g seen):QIn p b (Jf s b g seen) (qz s b g seen):=by
 refine⟨h.right,λi j hi d => ?_,Or.inr ⟨ow,by have:=h.bn;omega⟩⟩;have a:i<s.os.n:=hi;have c:j<(s.os.z i).ls.n:=d;have q:=C6 (b:=b) (g:=g) (M:=fg s b g seen) h.r h.miss0 i j;refine⟨q.1,?_⟩;have e:=(fi (h.r.fm.line i a j c)).2.2.2;rcases Vt h.r a c with k|k
 .exact Or.inl (by show fa s b g (fg s b g seen) i j=0;omega)
 refine Or.inr ⟨k.1,?_⟩;show fa s b g (fg s b g seen) i j<=((s.os.z i).ls.z j).n+fa s b g (fg s b g seen) i j;omega
theorem dr.all(h:dr p s b g seen):jc p b (Jf s b g seen) (Cs s) (qz s b g seen) s.os.n (qd p s b g seen):=P0 h.qin (λ_ _=>rfl) (Nat.le_refl s.os.n)
theorem dr.pos(h:dr p s b g seen):Pos p b (Jf s b g seen) (qz s b g seen) s.os.n 0 (qd p s b g seen):=jc.pos h.qin (λ_ _=>rfl) (Nat.le_refl s.os.n) h.all
theorem Pe(h:dr p s b g seen):am p (qd p s b g seen):=h.pos.al.r
end
section
variable {p:Pl} {s x:St} {b g:Nat} {seen:Int}
theorem afs(x:Hd):ww x 0=x:=by unfold ww;rw[Int.add_zero]
theorem Q1{f:Hd->Bool}{h:Hs}(a:∀y,y∈cz h.z h.n->1<=y.n):(db f h 0).n=h.n/\∀j,j<(db f h 0).n->(db f h 0).z j=h.z j:=by
 have e:=mn f h 0;rw[Hv f (λy b=>by have:=a y b;omega),Oo a] at e;exact Bv e
theorem Ym(r:am p s)(b g:Int):af (jn s b g 0) s:=by
 have l0:i5 s b g 0=0:=am3;have q0:∀o l,fa s b g 0 o l=0:=λo l=>by
  unfold fa;rw[l0];exact Eb _ _ _ r.holdsP
 refine⟨⟨rfl,λ_ _=>⟨rfl,λ_ _=>rfl⟩⟩,⟨rfl,λi _=>⟨rfl,rfl,λj _ => ?_⟩⟩,?_,Q1 r.moves0,⟨rfl,λ_ _=>rfl⟩,⟨rfl,λ_ _=>rfl⟩,⟨rfl,λ_ _=>rfl⟩⟩
 .show ww ((s.os.z i).ls.z j) (fa s b g 0 i j)=_;rw[q0,afs]
 show(db (cg s b g) s.hs (i5 s b g 0)).n=_/\∀j,j<(db (cg s b g) s.hs (i5 s b g 0)).n->(db (cg s b g) s.hs (i5 s b g 0)).z j=_;rw[l0];exact Q1 r.holds0
theorem jc.skip{but:Int}{q:Nat->Nat->Int}{m:Nat->Nat}(Q:QIn p but q s)(hm:∀a,a<s.os.n->m a=(s.os.z a).ls.n)(c:∀a b,a<s.os.n->b<(s.os.z a).ls.n->q a b=0):∀{i:Nat},i<=s.os.n->jc p but q m s i s
 | 0,_=>af.self s
 | i+1,hi=>by
  have T:=jc.skip Q hm c (i:=i) ow;exact⟨s,T,na.skip Q (jc.pos Q hm ow T) ow agz λb d=>c i b ow (by rw[<-hm i ow];exact d)⟩
theorem ac9(h:dr p s b g seen)(d:fg s b g seen=0):af (qd p s b g seen) (kw s b g seen):=by
 have Q:=h.qin;have q0:∀a c,a<(qz s b g seen).os.n->c<((qz s b g seen).os.z a).ls.n->Jf s b g seen a c=0:=λa c _ _=>by
  have k:=C6 (b:=b) (g:=g) (M:=fg s b g seen) h.r h.miss0 a c;unfold Jf fa;rw[d];have l0:i5 s b g 0=0:=by
   have e:=se (b:=b) (g:=g) h.r (Int.le_refl 0);have c:=(lm (s:=s) (b:=b) (g:=g) (n:=s.ms.n) h.r.fm.moveN).1;omega
  rw[l0];exact Eb _ _ _ h.r.holdsP
 have T:=jc.skip (m:=Cs s) Q (λ_ _=>rfl) q0 nlr;have f:af (qd p s b g seen) (qz s b g seen):=jc.same Q (λ_ _=>rfl) (Nat.le_refl s.os.n) T h.all;refine f.trans ?_;have c:=Ym h.r b g;unfold qz kw;rw[d];have i:((jn s b g 0).on.r b).z g=(s.on.r b).z g:=rfl;have j:(jn s b g 0).sf.z g=s.sf.z g:=rfl;rw[i,j];exact⟨⟨rfl,λ_ _=>⟨rfl,λ_ _=>rfl⟩⟩,c.os,c.hs,c.ms,⟨rfl,λ_ _=>rfl⟩,⟨rfl,λ_ _=>rfl⟩,⟨rfl,λ_ _=>rfl⟩⟩
theorem U7(h:dr p s b g seen):fs p s b g seen=0:=by
 have c:=h.bn;have d:=h.gn;have f:=h.s0;have i:=h.s1;unfold fs;rw[if_pos (js h.r),cy ow,cy ow,cy ow];have e:(Int.toNat (b:Int))=b:=rfl;have a:(Int.toNat (g:Int))=g:=rfl;rw[e,a,cy h.fx]
 rfl
theorem dr.onS(h:dr p s b g seen)(i j:Nat):((qz s b g seen).on.r i).z j=if i=b/\j=g then seen else(s.on.r i).z j:=xq (jn s b g (fg s b g seen)) b g seen i j
theorem dr.on(h:dr p s b g seen)(e:af x (qd p s b g seen)):x.on.n=s.on.n/\∀i,i<s.on.n->(x.on.r i).n=(s.on.r i).n/\∀j,j<(s.on.r i).n->(x.on.r i).z j=if i=b/\j=g then seen else(s.on.r i).z j:=by
 have a:=h.pos.al.on;have l:x.on.n=s.on.n:=e.on.1.trans a.1;refine⟨l,λi hi => ?_⟩;have c:=e.on.2 i (by rw[l];exact hi);have a1:=a.2 i (by rw[a.1];exact hi);have f:((qz s b g seen).on.r i).n=(s.on.r i).n:=vr (jn s b g (fg s b g seen)) b g seen i;have k:(x.on.r i).n=(s.on.r i).n:=c.1.trans (a1.1.trans f);refine⟨k,λj d => ?_⟩;rw[c.2 j (by rw[k];exact d),a1.2 j (by rw[a1.1,f];exact d),h.onS]
theorem dr.got(h:dr p s b g seen)(e:af x (qd p s b g seen)):x.os.n=s.os.n/\∀o,o<s.os.n->(x.os.z o).ls.n=(s.os.z o).ls.n/\∀k,k<(s.os.z o).ls.n->((x.os.z o).ls.z k).b=((s.os.z o).ls.z k).b:=by
 have a:=h.pos.al;have j:x.os.n=s.os.n:=e.os.1.trans a.osn;refine⟨j,λo d => ?_⟩;have c:=e.os.2 o (by rw[j];exact d);have i:((qd p s b g seen).os.z o).ls.n=(s.os.z o).ls.n:=(a.kind o d).2;refine⟨c.2.1.trans i,λk f => ?_⟩;rw[c.2.2 k (by rw[c.2.1,i];exact f),(a.line o d k f).2.2]
 rfl
theorem dr.num(h:dr p s b g seen)(e:af x (qd p s b g seen)):(x.on.r b).z g=seen:=by
 have a:b<s.on.n:=ali;have l:=h.r.fm.sh.len b a;have k:=((h.on e).2 b a).2 g (by rw[l];exact h.gn);rw[k,if_pos ⟨rfl,rfl⟩]
theorem dr.left(h:dr p s b g seen)(e:af x (qd p s b g seen)):aq x b g=max (seen-pk s b g) 0:=by
 rw[e.avail (Pe h).fm h.bn h.gn,(h.pos.al.av b g h.bn h.gn).2 rfl,h.av]
theorem dr.more(h:dr p s b g seen)(e:af x (qd p s b g seen))(a:(s.on.r b).z g-aq s b g<=seen):(x.hs.n=s.hs.n/\∀j,j<x.hs.n->x.hs.z j=s.hs.z j)/\x.ms.n=s.ms.n/\∀j,j<x.ms.n->x.ms.z j=s.ms.z j:=by
 have m:fg s b g seen=0:=by
  have k:=h.bound;unfold fg;omega
 have k:=e.trans (ac9 h m);exact⟨k.hs,k.ms⟩
theorem Nl{h k:Hs}(a:h.n=k.n)(b:∀j,j<h.n->h.z j=k.z j):cz h.z h.n=cz k.z k.n:=by
 rw[<-a];exact rd b
theorem M1{f g:Hd->Bool}:∀{R:List Hd} {m:Int},(∀x,x∈R->f x=g x)->i8 f m R=i8 g m R
 | [],_,_=>rfl
 | h :: R,m,e=>by
  show(if f h then _ else _)=if g h then _ else _;rw[e h List.mem_cons_self,M1 (m:=m-min m h.n) λx hx=>e x (List.mem_cons_of_mem _ hx),M1 (m:=m) λx hx=>e x (List.mem_cons_of_mem _ hx)]
theorem M2{f g:Hd->Bool}{o l:Int}:∀{R:List Hd} {m:Int},(∀x,x∈R->f x=g x)->mx f m R o l=mx g m R o l
 | [],_,_=>rfl
 | h :: R,m,e=>by
  show(if f h then _ else _)=if g h then _ else _;rw[e h List.mem_cons_self,M2 (m:=m-min m h.n) λx hx=>e x (List.mem_cons_of_mem _ hx),M2 (m:=m) λx hx=>e x (List.mem_cons_of_mem _ hx)]
theorem Va(f:cu p s)(e:af y s)(b g M:Int):af (jn y b g M) (jn s b g M)/\∀o l,fa y b g M o l=fa s b g M o l:=by
 have m:sq y=sq s:=Nl e.ms.1 e.ms.2;have h:pg y=pg s:=Nl e.hs.1 e.hs.2;have k:i5 y b g M=i5 s b g M:=by unfold i5;rw[m]
 have d:∀x,x∈pg s->cg y b g x=cg s b g x:=λx hx=>by
  obtain⟨j,c,rfl⟩:=Bz hx;obtain⟨v,A,-⟩:=je (f.home j c);unfold cg kf;rw[e.line v.2 A.2]
 have q:∀o l,fa y b g M o l=fa s b g M o l:=λo l=>by
  unfold fa;rw[k,h];exact M2 d
 have B:cz (db (cg y b g) y.hs (i5 y b g M)).z (db (cg y b g) y.hs (i5 y b g M)).n=cz (db (cg s b g) s.hs (i5 s b g M)).z (db (cg s b g) s.hs (i5 s b g M)).n:=by
  rw[mn,mn,k];have a:cz y.hs.z y.hs.n=cz s.hs.z s.hs.n:=h;have u:i8 (cg y b g) (i5 s b g M) (cz s.hs.z s.hs.n)=i8 (cg s b g) (i5 s b g M) (cz s.hs.z s.hs.n):=M1 d;rw[a,u]
 have D:cz (db (cx b g) y.ms M).z (db (cx b g) y.ms M).n=cz (db (cx b g) s.ms M).z (db (cx b g) s.ms M).n:=by
  rw[mn,mn];have a:cz y.ms.z y.ms.n=cz s.ms.z s.ms.n:=m;rw[a]
 refine⟨⟨e.on,⟨e.os.1,λi hi => ?_⟩,Bv B,Bv D,e.si,e.so,e.sf⟩,q⟩;have r:i<y.os.n:=hi;have w:=e.os.2 i r;refine⟨w.1,w.2.1,λj c => ?_⟩;have t:j<(y.os.z i).ls.n:=c;show ww ((y.os.z i).ls.z j) (fa y b g M i j)=ww ((s.os.z i).ls.z j) (fa s b g M i j);rw[w.2.2 j t,q]
theorem afc{a c:St}(e:af a c){seen:Int}(f:(a.on.r b).z g=(c.on.r b).z g)(h:a.sf.z g=c.sf.z g):af (kw a b g seen) (kw c b g seen):=by
 have k:=Am e b g seen;refine⟨k.on,k.os,k.hs,k.ms,k.si,k.so,⟨k.sf.1,λj i => ?_⟩⟩;have d:j<a.sf.n:=i;show(if j=g then a.sf.z g+(seen-(a.on.r b).z g) else a.sf.z j)=if j=g then c.sf.z g+(seen-(c.on.r b).z g) else c.sf.z j;rw[f,h,e.sf.2 j d]
theorem QIn.same{but:Int}{q h:Nat->Nat->Int}(Q:QIn p but q s)(e:af y s)(i:∀a b,a<s.os.n->b<(s.os.z a).ls.n->h a b=q a b):QIn p but h y:=by
 refine⟨e.right Q.r,λa b f g => ?_,Q.bt⟩;have c:a<s.os.n:=by rw[<-e.os.1];exact f
 have k:=e.os.2 a f;have d:b<(s.os.z a).ls.n:=by rw[<-k.2.1];exact g
 rw[i a b c d,k.1,k.2.2 b g];exact Q.q0 a b c d
end
section
variable {p:Pl} {s x:St} {o l b:Nat} {n:Int}
structure Ja(p:Pl)(s x:St)(o l b:Nat)(n:Int):Prop where
 r:am p x
 osn:x.os.n=s.os.n
 lns:∀i,i<s.os.n->(x.os.z i).ls.n=(s.os.z i).ls.n
 other:∀i,i<s.os.n->∀j,j<(s.os.z i).ls.n->¬(i=o/\j=l)->(x.os.z i).ls.z j=(s.os.z i).ls.z j/\keptS x.hs.z i j x.hs.n=keptS s.hs.z i j s.hs.n
 mine:((x.os.z o).ls.z l).b=((s.os.z o).ls.z l).b+n/\((x.os.z o).ls.z l).o=((s.os.z o).ls.z l).o
 closed:((x.os.z o).k==2) = !aw (x.os.z o).ls.n (λj=>kx ((x.os.z o).ls.z j))
 kind:(x.os.z o).k=1\/(x.os.z o).k=2
 gone:keptV x.hs.n x.hs.z o l b=0
 short:((s.os.z o).ls.z l).n<((x.os.z o).ls.z l).n->∀c:Nat,c<p.nb->¬c=b->aq x c (cf s o l)=0
theorem af.keptV(h:af x s)(a b c:Int):Go.Proofs.YtjgckphgagdpaaaGreatDoor.keptV x.hs.n x.hs.z a b c=Go.Proofs.YtjgckphgagdpaaaGreatDoor.keptV s.hs.n s.hs.z a b c:=by
 rw[h.hs.1];exact A6 (λj hj=>h.hs.2 j Js) a b c
theorem Ja.same(h:Ja p s y o l b n)(e:af x y)(d:o<s.os.n)(k:l<(s.os.z o).ls.n)(q:cf s o l<p.ns):Ja p s x o l b n:=by
 have m:∀i,i<s.os.n->i<x.os.n:=λi hi=>by rw[e.os.1,h.osn];exact hi
 have f:=e.os.2 o (m o d);have ln:∀i,i<s.os.n->∀j,j<(s.os.z i).ls.n->(x.os.z i).ls.z j=(y.os.z i).ls.z j:=λi hi j a=>e.line (by rw[h.osn];exact hi) (by rw[h.lns i hi];exact a);refine⟨e.right h.r,e.os.1.trans h.osn,λi hi=>(e.os.2 i (m i hi)).2.1.trans (h.lns i hi),λi hi j a t => ?_,?_,?_,?_,?_,λhs c hc g => ?_⟩
 .rw[ln i hi j a,e.kept];exact h.other i hi j a t
 .rw[ln o d l k];exact h.mine
 .rw[f.1,h.closed,f.2.1];exact congrArg not (sk λj a=>by rw[ln o d j (by rw[<-h.lns o d];exact a)])
 .rw[f.1];exact h.kind
 .rw[e.keptV];exact h.gone
 rw[ln o d l k] at hs;rw[e.avail h.r.fm hc q];exact h.short hs c hc g
theorem Ja.sum(h:Ja p s x o l b n)(c:o<x.os.n)(a:l<(x.os.z o).ls.n):((x.os.z o).ls.z l).b+((x.os.z o).ls.z l).n+keptS x.hs.z o l x.hs.n=((x.os.z o).ls.z l).l:=by
 rcases h.kind with k|k
 .exact(P6 h.r c a k).1
 have w:=h.r.orders o c;unfold cp at w;rw[Xxq] at w;have wl:dh (x.os.z o).k ((x.os.z o).ls.z l) (keptS x.hs.z o l x.hs.n)=false:=dv w.2 l a;unfold dh at wl;rw[k,if_neg dc,if_pos rfl] at wl;exact abz
end
theorem ng.none{but:Int}{n:Int}(h:i9 p y i j n)(e:∀c:Nat,c<p.nb->¬((c:Nat):Int)=but->aq y c ((y.os.z i).ls.z j).o.toNat=0)(T:ng p but y i j n x):af x y:=by
 have k:=h.tkw (but:=but);have b:∀c,(Tk.go (avT y i j) n (fh p but)).took c=0:=λc=>by
  by_cases a:c∈fh p but
  .have w:=lf.way _ a;have u:=e c.toNat ow (by rw[show((c.toNat:Nat):Int)=c by omega];exact(zz.1 a).2);have v:=k.had _ a;have f:=k.took0 c;have d:avT y i j c=0:=u;rw[d] at v;omega
  exact k.other _ a
 have sz:=k.sum;rw[x9 λc hc=>b c] at sz;exact ey.same T (ey.congr (ey.start (n:=n) h.fm.hold (af.self y)) (show(Tk.go (avT y i j) n (fh p but)).left=n by omega) b)
section
variable {p:Pl} {s x z:St}
theorem nz.kind(r:am p s)(h:nz p s x)(hi:i<x.os.n):¬(x.os.z i).k=0/\(x.os.z i).ls.n=(s.os.z i).ls.n:=by
 have P:=h.pos r;have hs:i<s.os.n:=aks;have k:=P.al.kind i hs;refine⟨λe => ?_,k.2.trans (rj s i).symm⟩;rw[k.1] at e;have a:(iw s.os.n i (s.os.z i)).k=0:=e;unfold iw at a;by_cases c:i<s.os.n/\(s.os.z i).k=0
 .rw[if_pos c] at a;cases a
 rw[if_neg c] at a;exact c ⟨hs,a⟩
theorem nz.none(r:am p s)(h:nz p s x)(hi:i<x.os.n)(d:j<(x.os.z i).ls.n)(e:(x.os.z i).k=1)(b:0<((x.os.z i).ls.z j).n)(hc:c<p.nb):aq x c ((x.os.z i).ls.z j).o.toNat=0:=by
 have P:=h.pos r;have hs:i<s.os.n:=aks;have k:=P.al.kind i hs;have a:j<((du s s.os.n).os.z i).ls.n:=by rw[<-k.2];exact d
 have q:xo s i j=(((du s s.os.n).os.z i).ls.z j).n:=if_pos (k.1.symm.trans e);rw[(P.al.line i hs j a).1];exact P.none i j hs a (Or.inl hs) q b c hc ow
theorem nz.first(r:am p s)(h:nz p s x){a d:Nat}(l:a<c)(e:c<s.os.n)(m:b<(s.os.z a).ls.n)(i:d<(s.os.z c).ls.n)(t:(x.os.z a).k=1)(u:¬((x.os.z a).ls.z b).n=0)(j:((x.os.z a).ls.z b).o=((x.os.z c).ls.z d).o):keptS x.hs.z c d x.hs.n=keptS s.hs.z c d s.hs.n:=by
 have P:=h.pos r;have hs:a<s.os.n:=ow;have k:=P.al.kind a hs;have f:b<((du s s.os.n).os.z a).ls.n:=by rw[<-rj];exact m
 have g:d<((du s s.os.n).os.z c).ls.n:=by rw[<-rj];exact i
 have q:xo s a b=(((du s s.os.n).os.z a).ls.z b).n:=if_pos (k.1.symm.trans t);have n0:=(Ct P.al.r (by rw[P.al.osn];exact hs) (by rw[k.2];exact f)).1;rw[(P.al.line a hs b f).1,(P.al.line c e d g).1] at j;exact P.first a b hs f c d e g (Or.inl l) (Or.inl e) q ow j
end
theorem Ds(s:St)(o:Nat)(a b c:Int):keptV (ew s o).hs.n (ew s o).hs.z a b c=if a=o then 0 else keptV s.hs.n s.hs.z a b c:=by
 by_cases h:a=o
 .rw[if_pos h];exact(Q2 s.hs (λx=>x.o==(o:Int)) (B:=true) (λx d=>by rw[(fq d).1,h];simp)).trans (if_pos rfl)
 rw[if_neg h];exact(Q2 s.hs (λx=>x.o==(o:Int)) (B:=false) (λx d=>by rw[(fq d).1];simpa using h)).trans (if_neg dc)
theorem Mu(d:aw s.hs.n (df s.hs.z)=false)(o:Nat)(a b:Int):keptS (ew s o).hs.z a b (ew s o).hs.n=if a=o then 0 else keptS s.hs.z a b s.hs.n:=by
 have hx:aw (ew s o).hs.n (df (ew s o).hs.z)=false:=Pf _ d;rw[<-Af _ a b _ hx,<-Af _ a b _ d];by_cases h:a=o
 .rw[if_pos h];exact x9 λc _=>by rw[Ds,if_pos h]
 rw[if_neg h];exact vt λc _=>by rw[Ds,if_neg h]
theorem Io(s:St)(o i j:Nat):(((ew s o).os.z i).ls.z j).o=((s.os.z i).ls.z j).o/\(((ew s o).os.z i).ls.z j).l=((s.os.z i).ls.z j).l/\(((ew s o).os.z i).ls.z j).b=((s.os.z i).ls.z j).b:=by
 rw[tw];by_cases h:i=o
 .rw[if_pos h];show((if j<_ then y9 ((s.os.z i).ls.z j) else(s.os.z i).ls.z j).o=_)/\((if j<_ then y9 ((s.os.z i).ls.z j) else(s.os.z i).ls.z j).l=_)/\((if j<_ then y9 ((s.os.z i).ls.z j) else(s.os.z i).ls.z j).b=_)
  split<;>exact⟨rfl,rfl,rfl⟩
 rw[if_neg h];exact⟨rfl,rfl,rfl⟩
theorem Mv{o:Nat}(a:j<(s.os.z o).ls.n):(((ew s o).os.z o).ls.z j).n=((s.os.z o).ls.z j).l-((s.os.z o).ls.z j).b:=by
 rw[tw,if_pos rfl];show(if j<_ then y9 ((s.os.z o).ls.z j) else(s.os.z o).ls.z j).n=_;rw[if_pos a]
 rfl
theorem Az(s:St)(o i:Nat):((ew s o).os.z i).ls.n=(s.os.z i).ls.n:=by
 rw[tw]
 split<;>rfl
theorem Me(r:am p s){o:Nat}(w:o<s.os.n):cu p (ew s o):=by
 have f:=r.fm;have hx:aw (ew s o).hs.n (df (ew s o).hs.z)=false:=Pf _ f.hold;refine⟨f.sh,f.sh0,f.os4,f.ms8,λi hi=>by rw[Az];exact f.lns i hi,λi hi => ?_,λi hi j k => ?_,hx,λi hi => ?_,f.move,f.sin,f.son,f.sfn,f.sib,f.sob,f.sfb⟩
 .rw[tw];exact an9
 .have a:j<(s.os.z i).ls.n:=by rw[<-Az s o];exact k
  obtain⟨b1,b2,b3,b4⟩:=fi (f.line i hi j a);have g:=Io s o i j;by_cases h:i=o
  .subst h;have e:=Mv (s:=s) a;exact abu
  rw[tw,if_neg h];exact f.line i hi j a
 have e:=(qf hx hi (yp _)).1;rw[Ds] at e;have fn:=(cw (cd hx i hi)).2.2.2
 split at e
 .omega
 obtain⟨u,v,-⟩:=uu f.hold (o:=((ew s o).hs.z i).o) (l:=((ew s o).hs.z i).l) (b:=((ew s o).hs.z i).b) ow;obtain⟨m,q,t⟩:=fq v;obtain⟨a1,c,d⟩:=je (f.home _ u);rw[m] at a1 c;rw[q] at c;rw[t] at d;refine sp a1 ⟨c.1,?_⟩ d;rw[Az];exact c.2
theorem Qd{z z':Nat->Int}:∀{k:Nat},(∀i,i<k->z i<=z' i)->cq z k<=cq z' k
 | 0,_=>Int.le_refl _
 | k+1,h=>by
  have:=Qd (k:=k) λi hi=>h i ow;have:=h k ow;simp only[cq];omega
theorem ac6(r:am p s){o:Nat}(c:o<s.os.n)(b g:Int):ce (ew s o) b g (ew s o).hs.n<=ce s b g s.hs.n:=by
 have f:=r.fm;have fx:=Me r c;rw[vm b g _ fx.home fx.hold,vm b g _ f.home f.hold];unfold Dc;refine Qd λi hi => ?_;rw[Az];refine Qd λj a => ?_;unfold l6;rw[(Io s o i j).1,Ds];have d:=(Gt (λj a=>(cw (cd f.hold j a)).2.2.2) (i:Int) (j:Int) b).1
 split
 .split<;>omega
 omega
theorem X8(r:am p s){o:Nat}(f:o<s.os.n):am p (ew s o):=by
 refine⟨Me r f,λg v => ?_,λi hi => ?_⟩
 .obtain⟨a1,l⟩:=mv (r.goods g v);refine ut a1 λb u => ?_;have A:=ac6 r f b g;have t:=l b u;unfold aq at t ⊢;have e:bp (ew s o) b g (ew s o).ms.n=bp s b g s.ms.n:=rm (x:=ew s o) (s:=s) (λj _=>rfl);rw[e];have m:((ew s o).on.r b).z g=(s.on.r b).z g:=rfl;rw[m];omega
 have c:i<s.os.n:=hi;have w:=r.orders i c;unfold cp at w ⊢;rw[Xxq] at w ⊢;by_cases h:i=o
 .subst h;have q:((ew s i).os.z i).k=2:=by rw[tw,if_pos rfl]
  rw[q];refine⟨rfl,dj λj a => ?_⟩;have d:j<(s.os.z i).ls.n:=by rw[<-Az s i];exact a
  have g:=Io s i i j;have e:=Mv (s:=s) d;have k:=Mu r.fm.hold i i j;rw[if_pos rfl] at k;unfold dh;rw[if_neg dc,if_pos rfl,k];simp only[Xxq,Bool.not_eq_false',beq_iff_eq];exact⟨ow,trivial⟩
 have e:(ew s o).os.z i=s.os.z i:=by rw[tw,if_neg h]
 rw[e];refine⟨w.1,dj λj a => ?_⟩;have y:=dv w.2 j a;rw[Mu r.fm.hold,if_neg ow];exact y
theorem Cg{order:Int}(h:gy p s order=0):ag p s=0/\(0<=order/\order.toNat<s.os.n)/\¬(s.os.z order.toNat).k=2:=by
 by_cases a:ag p s=0
 .cases b:inB order 0 ((s.os.n:Int)-1)
  .rw[F8 a b] at h;exact absurd h dc
  by_cases c:(s.os.z order.toNat).k=2
  .rw[F7 a b c] at h;exact absurd h dc
  have:=ar b;exact⟨a,ow,c⟩
 rw[Bd a] at h;exact absurd h a
structure Ax where
 k:Int
 a:Int
 b:Int
 c:Int
 n:Int
 ls:Hs
def Ax.cells(x:Ax):Array Value:=#[.int .i64 x.k,.int .i64 x.a,.int .i64 x.b,.int .i64 x.c,.int .i64 x.n,.slice x.ls.a x.ls.n x.ls.c]
def Ax.val(x:Ax):Value := .agg x.cells
def doE(p:Pl)(s:St)(x:Ax):Int :=
 if x.k=1 then ic p s x.a x.b x.n else if x.k=2 then ib p s x.ls else if x.k=3 then ag p s else if x.k=4 then gy p s x.a else if x.k=5 then ji p s x.a x.b x.c x.n else if x.k=6 then ag p s else if x.k=7 then gj p s x.a x.n else if x.k=8 then fs p s x.a x.b x.n else 8
def doT(p:Pl)(s:St)(x:Ax):St :=
 if x.k=1 then nx s x.a.toNat x.b.toNat x.n else if x.k=2 then my s x.ls else if x.k=3 then Nj p s else if x.k=4 then ew s x.a.toNat else if x.k=5 then t9 p s x.a.toNat x.b.toNat x.c.toNat x.n else if x.k=6 then Du p s else if x.k=7 then li s x.a.toNat x.n else qd p s x.a.toNat x.b.toNat x.n
section
variable {p:Pl} {s:St} {x:Ax}
theorem Yp(P:Int->St->Prop)(o:x.k=1->P (ic p s x.a x.b x.n) (nx s x.a.toNat x.b.toNat x.n))(q:x.k=2->P (ib p s x.ls) (my s x.ls))(r:x.k=3->P (ag p s) (Nj p s))(t:x.k=4->P (gy p s x.a) (ew s x.a.toNat))(u:x.k=5->P (ji p s x.a x.b x.c x.n) (t9 p s x.a.toNat x.b.toNat x.c.toNat x.n))(v:x.k=6->P (ag p s) (Du p s))(w:x.k=7->P (gj p s x.a x.n) (li s x.a.toNat x.n))(h8:x.k=8->P (fs p s x.a x.b x.n) (qd p s x.a.toNat x.b.toNat x.n))(m:¬x.k=1->¬x.k=2->¬x.k=3->¬x.k=4->¬x.k=5->¬x.k=6->¬x.k=7->¬x.k=8->P 8 (qd p s x.a.toNat x.b.toNat x.n)):P (doE p s x) (doT p s x):=by
 unfold doE doT;by_cases d:x.k=1
 .rw[if_pos d,if_pos d];exact o d
 rw[if_neg d,if_neg d];by_cases e:x.k=2
 .rw[if_pos e,if_pos e];exact q e
 rw[if_neg e,if_neg e];by_cases f:x.k=3
 .rw[if_pos f,if_pos f];exact r f
 rw[if_neg f,if_neg f];by_cases g:x.k=4
 .rw[if_pos g,if_pos g];exact t g
 rw[if_neg g,if_neg g];by_cases h:x.k=5
 .rw[if_pos h,if_pos h];exact u h
 rw[if_neg h,if_neg h];by_cases i:x.k=6
 .rw[if_pos i,if_pos i];exact v i
 rw[if_neg i,if_neg i];by_cases j:x.k=7
 .rw[if_pos j,if_pos j];exact w j
 rw[if_neg j,if_neg j];by_cases l:x.k=8
 .rw[if_pos l];exact h8 l
 rw[if_neg l];exact m d e f g h i j l
theorem Rt{order line bin n:Int}(h:ji p s order line bin n=0):mi p s order.toNat line.toNat bin.toNat n:=by
 obtain⟨-,o,l,b,rfl,rfl,rfl,hi⟩:=Zo h;exact hi
theorem Pn{k n:Int}(h:gj p s k n=0):∃(f b g:Nat) (N:Int),sd p s k.toNat f b g N n:=by
 obtain⟨-,i,f,b,g,N,rfl,hi⟩:=ad6 h;exact⟨f,b,g,N,hi⟩
theorem Pd{bin good seen:Int}(h:fs p s bin good seen=0):dr p s bin.toNat good.toNat seen:=by
 obtain⟨-,b,g,rfl,rfl,hi⟩:=adz h;exact hi
theorem arl{bin good n:Int}(h:ic p s bin good n=0):am p (nx s bin.toNat good.toNat n):=by
 obtain⟨a,e,f,d,-,b,c⟩:=Pp h;exact af8 (et a) ow ow d.1 b c
theorem aq1:doE p s x=0->am p s/\am p (doT p s x):=by
 refine Yp (λE T=>E=0->am p s/\am p T) ?_ ?_ ?_ ?_ ?_ ?_ ?_ ?_ ?_
 .exact λ_ h=>⟨et (af5 h),arl h⟩
 .exact λ_ h=>⟨et (Pg h).1,adh h⟩
 .exact λ_ h=>⟨et h,aga (et h)⟩
 .exact λ_ h=>⟨et (Cg h).1,X8 (et (Cg h).1) (Cg h).2.1.2⟩
 .exact λ_ h=>⟨et (Zo h).1,af3 (Rt h)⟩
 .exact λ_ h=>⟨et h,(ait (et h)).r⟩
 .exact λ_ h=>⟨et (ad6 h).1,by obtain⟨f,b,g,N,hi⟩:=Pn h;exact ado hi⟩
 .exact λ_ h=>⟨et (adz h).1,Pe (Pd h)⟩
 exact λ_ _ _ _ _ _ _ _ h=>absurd h dc
end
theorem awj(h:J2 y)(a:y.At w)(b:World):y.At b:=by
 obtain⟨c,d,e,f,g,j,k⟩:=h;exact⟨⟨a.on.le,a.on.cap,λi hi=>absurd hi ow⟩,⟨a.os.le,a.os.cap,λi hi=>absurd hi ow⟩,⟨a.hs.le,a.hs.cap,λi hi=>absurd hi ow,a.hs.nilc⟩,⟨a.ms.le,a.ms.cap,λi hi=>absurd hi ow,a.ms.nilc⟩,⟨a.si.le,a.si.cap,λi hi=>absurd hi ow⟩,⟨a.so.le,a.so.cap,λi hi=>absurd hi ow⟩,⟨a.sf.le,a.sf.cap,λi hi=>absurd hi ow⟩⟩
theorem ah9{T:St}(h:jb W T y)(c:y.At w)(b:W=0->ah A a y):y.At a:=by
 by_cases e:W=0
 .exact(b e).at
 exact awj (h.2 e) c a
theorem M0{f:Hd->Bool}:∀{R:List Hd} {m:Int},yu R->fl f R<=m->i8 f (m+1) R=i8 f m R
 | [],_,_,_=>rfl
 | h :: R,m,p,hs=>by
  have b:=p.head;have d:=Dl (P:=f) p.tail;by_cases c:f h=true
  .have e:∀k,i8 f k (h :: R)=jl h (min k h.n) :: i8 f (k-min k h.n) R:=λk=>if_pos c;have a:fl f (h :: R)=fl f R+h.n:=agt;rw[a] at hs;rw[e,e,show min (m+1) h.n=h.n by omega,show min m h.n=h.n by omega,show m+1-h.n=m-h.n+1 by omega,M0 p.tail ow]
  have e:∀k,i8 f k (h :: R)=h :: i8 f k R:=λk=>if_neg c;have a:fl f (h :: R)=fl f R:=Xe;rw[a] at hs;rw[e,e,M0 p.tail hs]
theorem Bh{f:Hd->Bool}{z:Nat->Hd}:∀{n:Nat},ld f z n=none->fl f (cz z n)=0
 | 0,_=>rfl
 | n+1,h=>by
  have k:=Vs h;have c:f (z n)=false:=k n ow;have b:ld f z n=none:=by
   have a:(if f (z n) then some n else ld f z n)=none:=h;rw[if_neg (by rw[c];decide)] at a;exact a
  show fl f (cz z n)+(if f (z n) then(z n).n else 0)=0;rw[Bh b,if_neg (by rw[c];decide)]
  rfl
theorem Bi{f:Hd->Bool}{z:Nat->Hd}:∀{n k:Nat},(∀x,x∈cz z n->1<=x.n)->ld f z n=some k->1<=fl f (cz z n)
 | 0,_,_,h=>by cases h
 | n+1,k,p,h=>by
  have b:∀x,x∈cz z n->1<=x.n:=λx hx=>p x (List.mem_cons_of_mem _ hx);have d:=Dl (P:=f) (R:=cz z n) λx hx=>by have:=b x hx;omega
  have a:(if f (z n) then some n else ld f z n)=some k:=h;show 1<=fl f (cz z n)+(if f (z n) then(z n).n else 0);by_cases c:f (z n)=true
  .have:=p (z n) List.mem_cons_self;rw[if_pos c];omega
  rw[if_neg c] at a ⊢;have:=Bi b a;omega
theorem Rj{f a:Hd->Bool}{z:Nat->Hd}:∀{n:Nat},(∀j,j<n->a (z j)=f (z j))->ld a z n=ld f z n
 | 0,_=>rfl
 | n+1,h=>by
  show(if a (z n) then some n else ld a z n)=if f (z n) then some n else ld f z n;rw[h n ow,Rj (n:=n) λj b=>h j ow]
def ye(h m:Hs)(k:Nat):Prop:=if (h.z k).n=1 then m.n=h.n-1/\(∀i,i<m.n->m.z i=gu h.z k i) else m.n=h.n/\∀i,i<m.n->m.z i=io h.z k 1 i
theorem ye.rev{f:Hd->Bool}{h m:Hs}{k:Nat}(a:ld f h.z h.n=some k)(c:ye h m k):cz m.z m.n=Nd f (cz h.z h.n):=by
 have l:=F2 a;unfold ye at c;by_cases e:(h.z k).n=1
 .rw[if_pos e] at c;obtain⟨q,d⟩:∃q,h.n=q+1:=⟨h.n-1,ow⟩;rw[d] at a ⊢;rw[<-Zk a e,show m.n=q by omega];exact rd λj b=>c.2 j ow
 rw[if_neg e] at c;rw[<-Zl a e,c.1];exact rd λj b=>c.2 j ow
section
variable {p:Pl} {s x:St} {b g:Nat} {seen J:Int}
def p8(s:St)(b g:Nat)(seen J:Int)(x:St):Prop:=af x (kw (jn s b g J) b g seen)
theorem p8.start(r:am p s)(m:b<p.nb)(o:g<p.ns)(h:af x s):p8 s b g seen 0 (kw x b g seen):=by
 have c:=h.trans (Ym r b g).symm;have l:(x.on.r b).z g=(s.on.r b).z g:=h.num r.fm m o;refine⟨⟨c.on.1,λi hi => ?_⟩,c.os,c.hs,c.ms,c.si,c.so,⟨c.sf.1,λj d => ?_⟩⟩
 .have e:i<x.on.n:=hi;have k:=c.on.2 i e;have f:=vr x b g seen i;have t:=vr (jn s b g 0) b g seen i;have u:((kw x b g seen).on.r i).n=(x.on.r i).n:=f;refine⟨f.trans (k.1.trans t.symm),λj d => ?_⟩;rw[xq,xq,k.2 j (by rw[<-u];exact d)]
 have a:j<x.sf.n:=d;show(if j=g then x.sf.z g+(seen-(x.on.r b).z g) else x.sf.z j)=if j=g then s.sf.z g+(seen-(s.on.r b).z g) else s.sf.z j;rw[h.sf.2 j a,l];by_cases q:j=g
 .rw[if_pos q,if_pos q,<-q,h.sf.2 j a]
 rw[if_neg q,if_neg q]
theorem aik(r:am p s)(a:0<=J)(e:J<=pk s b g):pk (jn s b g J) b g=pk s b g-J:=by
 have c:=Yk (b:=b) (g:=g) r a b g;have d:=Yj (b:=b) (g:=g) r a b g;have f:=se (b:=b) (g:=g) r a;have h:=(pd (s:=s) (b:=b) (g:=g) (n:=s.hs.n) r.fm.holdN).1;have i:=(lm (s:=s) (b:=b) (g:=g) (n:=s.ms.n) r.fm.moveN).1;rw[if_pos ⟨rfl,rfl⟩] at c d;unfold pk at e ⊢;omega
theorem p8.revM(h:p8 s b g seen J x):cz x.ms.z x.ms.n=flt (i8 (cx b g) J (sq s)):=by
 have e:cz x.ms.z x.ms.n=cz (db (cx b g) s.ms J).z (db (cx b g) s.ms J).n:=by
  have n:x.ms.n=(db (cx b g) s.ms J).n:=h.ms.1;rw[n];exact rd λj a=>h.ms.2 j (by rw[n];exact a)
 rw[e,mn]
 rfl
theorem p8.revH(h:p8 s b g seen J x):cz x.hs.z x.hs.n=flt (i8 (cg s b g) (i5 s b g J) (pg s)):=by
 have e:cz x.hs.z x.hs.n=cz (db (cg s b g) s.hs (i5 s b g J)).z (db (cg s b g) s.hs (i5 s b g J)).n:=by
  have n:x.hs.n=(db (cg s b g) s.hs (i5 s b g J)).n:=h.hs.1;rw[n];exact rd λj a=>h.hs.2 j (by rw[n];exact a)
 rw[e,mn]
 rfl
theorem ad1{R:List Hd}(p:yu R):∀y,y∈flt R->1<=y.n:=λy a=>by
 unfold flt at a;rw[List.mem_filter] at a;have:=p y a.1;have b:=a.2;unfold vd at b;simp at b;omega
theorem p8.move(r:am p s)(h0:0<=J)(h:p8 s b g seen J x){k:Nat}(a:ld (cx b g) x.ms.z x.ms.n=some k){m:Hs}(c:ye x.ms m k):p8 s b g seen (J+1) (withMoves x m):=by
 have e:=c.rev a;have s1:=Bi as1 a;rw[h.revM,xz,(wo (uh b g) r.movesP h0).1] at s1;have l:J+1<=fl (cx b g) (sq s):=ow;rw[h.revM,(Ov (uh b g) r.moves0 h0 l).1] at e;have d:cz m.z m.n=cz (db (cx b g) s.ms (J+1)).z (db (cx b g) s.ms (J+1)).n:=by rw[e,mn];rfl
 have f:=Bv d;have o:bp s b g s.ms.n=fl (cx b g) (sq s):=xu s b g s.ms.n;have L:i5 s b g (J+1)=i5 s b g J:=anm;have eq:fa s b g (J+1)=fa s b g J:=by unfold fa;rw[L]
 have j:(kw (jn s b g (J+1)) b g seen).os=(kw (jn s b g J) b g seen).os:=by
  show Je s.os (fa s b g (J+1))=Je s.os (fa s b g J);rw[eq]
 have i:(kw (jn s b g (J+1)) b g seen).hs=(kw (jn s b g J) b g seen).hs:=by
  show db (cg s b g) s.hs (i5 s b g (J+1))=db (cg s b g) s.hs (i5 s b g J);rw[L]
 exact⟨h.on,by rw[j];exact h.os,by rw[i];exact h.hs,f,h.si,h.so,h.sf⟩
theorem p8.noMove(r:am p s)(a:0<=J)(h:p8 s b g seen J x)(c:ld (cx b g) x.ms.z x.ms.n=none):fl (cx b g) (sq s)<=J/\i5 s b g (J+1)=i5 s b g J+1:=by
 have e:=Bh c;rw[h.revM,xz,(wo (uh b g) r.movesP a).1] at e;have f:bp s b g s.ms.n=fl (cx b g) (sq s):=xu s b g s.ms.n;have a1:=(se (b:=b) (g:=g) r a).1;have d:=(se (b:=b) (g:=g) (M:=J+1) r ow).1;have i:=(lm (s:=s) (b:=b) (g:=g) (n:=s.ms.n) r.fm.moveN).1;omega
theorem p8.good(r:am p s)(d:0<=J)(h:p8 s b g seen J x)(hj:j<x.hs.n):cg x b g (x.hs.z j)=cg s b g (x.hs.z j):=by
 have f:=Kc (b:=b) (g:=g) r d;have hn:x.hs.n=(jn s b g J).hs.n:=h.hs.1;have k:x.hs.z j=(jn s b g J).hs.z j:=h.hs.2 j hj;obtain⟨a,c,-⟩:=je (f.home j aav);rw[<-k] at a c;have e:=h.line (i:=(x.hs.z j).o.toNat) (j:=(x.hs.z j).l.toNat) a.2 c.2;unfold cg
 congr 2
 unfold kf;rw[e]
 rfl
theorem p8.hold(r:am p s)(A:0<=J)(h:p8 s b g seen J x)(W:ld (cx b g) x.ms.z x.ms.n=none){k:Nat}(V:ld (cg x b g) x.hs.z x.hs.n=some k){m:Hs}(c:ye x.hs m k){o:Nat}(Y:(x.hs.z k).o=o)(X:(x.hs.z k).l=l):p8 s b g seen (J+1) (setLine (withHolds x m) o l 3 (((x.os.z o).ls.z l).n+1))/\∀a d:Int,fa s b g (J+1) a d=fa s b g J a d+if a=o/\d=l then 1 else 0:=by
 obtain⟨U,L⟩:=h.noMove r A W;have y:=(se (b:=b) (g:=g) r A).2;have q:ld (cg s b g) x.hs.z x.hs.n=some k:=by rw[<-V];exact(Rj λj t=>h.good r A t).symm
 have e:=c.rev q;have s1:=Bi (by rw[h.revH];exact ad1 (Gf _ r.holdsP y)) q;rw[h.revH,xz,(wo (Dv s b g) r.holdsP y).1] at s1;have T:i5 s b g J+1<=fl (cg s b g) (pg s):=ow;obtain⟨o1,E,S,q1⟩:=Ov (Dv s b g) r.holds0 y T;rw[h.revH,o1] at e;have K:cz m.z m.n=cz (db (cg s b g) s.hs (i5 s b g (J+1))).z (db (cg s b g) s.hs (i5 s b g (J+1))).n:=by rw[e,mn,L];rfl
 have M:=Bv K;have D:(cz x.hs.z x.hs.n).find? (cg s b g)=some (x.hs.z k):=by rw[Vr,q];rfl
 rw[h.revH,S] at D;have B:E=x.hs.z k:=by simpa using D
 have Q:∀a d:Int,fa s b g (J+1) a d=fa s b g J a d+if a=o/\d=l then 1 else 0:=λa d=>by
  unfold fa;rw[L,q1,B,Y,X];by_cases u:a=o/\d=l
  .rw[if_pos u,if_pos ⟨u.1.symm,u.2.symm⟩]
  rw[if_neg u,if_neg (λv=>u ⟨v.1.symm,v.2.symm⟩)]
 refine⟨⟨h.on,⟨h.os.1,λi hi => ?_⟩,M,?_,h.si,h.so,h.sf⟩,Q⟩;rotate_left
 .have e4:cz (db (cx b g) s.ms (J+1)).z (db (cx b g) s.ms (J+1)).n=cz (db (cx b g) s.ms J).z (db (cx b g) s.ms J).n:=by
   have H:cz s.ms.z s.ms.n=sq s:=rfl;rw[mn,mn,H,M0 r.movesP U]
  have e5:=Bv e4;have G:x.ms.n=(db (cx b g) s.ms J).n:=h.ms.1;refine⟨?_,λj t => ?_⟩
  .show x.ms.n=(db (cx b g) s.ms (J+1)).n;rw[G,e5.1]
  have f:j<x.ms.n:=t;show x.ms.z j=(db (cx b g) s.ms (J+1)).z j;rw[e5.2 j (by rw[e5.1,<-G];exact f)];exact h.ms.2 j f
 have F:i<x.os.n:=hi;have w:=h.os.2 i F;rw[um,(dw i).1];refine⟨w.1,w.2.1,λj t => ?_⟩;rw[rf];have f:j<(x.os.z i).ls.n:=t;have v:(x.os.z i).ls.z j=ww ((s.os.z i).ls.z j) (fa s b g J i j):=w.2.2 j f;show(if i=o/\j=l then Lp ((x.os.z i).ls.z j) 3 _ else(x.os.z i).ls.z j)=ww ((s.os.z i).ls.z j) (fa s b g (J+1) i j);rw[Q];by_cases u:i=o/\j=l
 .rw[if_pos u,if_pos ⟨ow,ow⟩,<-u.1,<-u.2,v];show(⟨_,_,_,_+1⟩:Hd)=⟨_,_,_,_+(_+1)⟩;unfold ww;rw[Int.add_assoc]
 rw[if_neg u,if_neg (λe=>u ⟨ow,ow⟩),v,Int.add_zero]
end
structure ux(x y:Ax):Prop where
 k:x.k=y.k
 a:x.a=y.a
 b:x.b=y.b
 c:x.c=y.c
 n:x.n=y.n
 ln:x.ls.n=y.ls.n
 lz:∀j,j<y.ls.n->x.ls.z j=y.ls.z j
theorem ux.self(x:Ax):ux x x:=⟨rfl,rfl,rfl,rfl,rfl,rfl,λ_ _=>rfl⟩
section
variable {p:Pl} {s y:St}
theorem af4(r:am p s)(e:af y s)(bin good n:Int):ic p y bin good n=ic p s bin good n:=by
 unfold ic;rw[if_pos (js (e.right r)),if_pos (js r)];cases h:(inB bin 0 ((p.nb:Int)-1)&&inB good 0 ((p.ns:Int)-1)&&inB n 1 200)
 .rfl
 simp only[Xxx] at h;have b:=ar h.1.1;have c:=ar h.1.2;have a:bin.toNat<p.nb:=ow;have hg:good.toNat<p.ns:=ow;rw[e.free r.fm a,e.lying r.fm a hg,e.si.2 good.toNat ak3]
theorem af6(r:am p s)(e:af y s)(a:b<p.nb)(hg:g<p.ns)(n:Int):af (nx y b g n) (nx s b g n):=by
 unfold nx;rw[e.num r.fm a hg,e.si.2 g ak3];exact Lq (Am e _ _ _) _ _
theorem adf(r:am p s)(e:af y s){l a:Hs}(d:a.n=l.n)(c:∀j,j<l.n->a.z j=l.z j):ib p y a=ib p s l:=by
 unfold ib;rw[if_pos (js (e.right r)),if_pos (js r),e.os.1,d,sk (f:=λj=>wi p (a.z j)) (g:=λj=>wi p (l.z j)) λj b=>by rw[c j b],sk (f:=λj=>rv (a.z j)) (g:=λj=>rv (l.z j)) λj b=>by rw[c j b]]
theorem adg(e:af y s){l a:Hs}(hn:a.n=l.n)(hz:∀j,j<l.n->a.z j=l.z j):af (my y a) (my s l):=by
 refine⟨e.on,⟨by show y.os.n+1=s.os.n+1;rw[e.os.1],λi hi => ?_⟩,e.hs,e.ms,e.si,e.so,e.sf⟩;have g:i<y.os.n+1:=hi;by_cases c:i=y.os.n
 .have b:i=s.os.n:=c.trans e.os.1;have d:(my y a).os.z i=⟨0,a⟩:=if_pos c;have f:(my s l).os.z i=⟨0,l⟩:=if_pos b;rw[d,f];exact apu
 have b:¬i=s.os.n:=λh=>c (h.trans e.os.1.symm);have d:(my y a).os.z i=y.os.z i:=if_neg c;have f:(my s l).os.z i=s.os.z i:=if_neg b;rw[d,f];exact e.os.2 i ow
theorem X7(r:am p s)(e:af y s)(o:Int):gy p y o=gy p s o:=by
 unfold gy;rw[if_pos (js (e.right r)),if_pos (js r),e.os.1];cases h:inB o 0 ((s.os.n:Int)-1)
 .rfl
 have a:=ar h;rw[(e.os.2 o.toNat (by rw[e.os.1];omega)).1]
theorem Mg(e:af y s){o:Nat}(b:o<s.os.n)(a:l<(s.os.z o).ls.n):cf y o l=cf s o l:=by
 unfold cf;rw[e.line b a]
theorem afy(r:am p s)(e:af y s)(order line bin n:Int):ji p y order line bin n=ji p s order line bin n:=by
 have d:ed y order line bin=ed s order line bin:=e.keptV _ _ _;unfold ji;rw[if_pos (js (e.right r)),if_pos (js r),d];by_cases h:ed s order line bin=0
 .rw[if_pos h,if_pos h]
 rw[if_neg h,if_neg h];obtain⟨o,l,b,rfl,rfl,rfl,hi⟩:=Rd r h;have g:=hi.good;have a:cf y (o:Int).toNat (l:Int).toNat=cf s (o:Int).toNat (l:Int).toNat:=Mg e hi.on hi.ln;have c:y.so.z (cf s (o:Int).toNat (l:Int).toNat)=s.so.z (cf s (o:Int).toNat (l:Int).toNat):=e.so.2 _ (by rw[e.so.1,r.fm.son];exact g.2);rw[a,c]
theorem Vg{α:Type}{f g:α->Bool}:∀{l:List α},(∀x,x∈l->f x=g x)->l.find? f=l.find? g
 | [],_=>rfl
 | a :: l,h=>by
  rw[List.find?_cons,List.find?_cons,h a List.mem_cons_self,Vg λx hx=>h x (List.mem_cons_of_mem _ hx)]
theorem ade{h k:Hs}(a:h.n=k.n)(c:∀j,j<h.n->h.z j=k.z j)(o l b:Int)(g:0<k.n):(nk h o l b).n=(nk k o l b).n/\∀j,j<(nk h o l b).n->(nk h o l b).z j=(nk k o l b).z j:=by
 have d:jy h.n h.z o l b=jy k.n k.z o l b:=by
  unfold jy;rw[a,Vg λi hi=>by rw[c i (by rw[a];exact List.mem_range.1 hi)]]
 refine⟨by show h.n-1=k.n-1;rw[a],λj e => ?_⟩;have f:j<h.n-1:=e;show gu h.z (jy h.n h.z o l b) j=gu k.z (jy k.n k.z o l b) j;rw[d];unfold gu;rw[c j ow,c (j+1) ow]
theorem afz(e:af y s){o:Nat}{n:Int}(a:qc p s o l b):af (ch y o l b n) (ch s o l b n):=by
 have f:ed y o l b=ed s o l b:=e.keptV _ _ _;have g:=Mg e a.on a.ln;have i:0<s.hs.n:=by
  apply Classical.byContradiction
  intro h;have c:s.hs.n=0:=ow;exact a.kp (by unfold ed;rw[c];rfl)
 have d:=ade e.hs.1 e.hs.2 o l b i;have k:=Ld e (n:=n) a d.1 d.2;rw[<-g,<-f] at k;exact k
theorem af0(e:af y s){o:Nat}{n:Int}(h:mi p s o l b n):af (t9 p y o l b n) (t9 p s o l b n):=by
 have S:=afz (n:=n) e h.hd;have a:ed y o l b=ed s o l b:=e.keptV _ _ _;have g:=Iv S (o:=o) h.hd.on;unfold t9;rw[g,a];by_cases c:lg (ch s o l b n) o=true
 .rw[if_pos c,if_pos c];exact Ko S _ _
 rw[if_neg c,if_neg c];have T:=h.takeIn;exact ng.same T S (Ap T) (Ap (T.same S))
theorem Yw(r:am p s)(e:af y s){f:Nat}(a:b<p.nb)(i:g<p.ns)(d:f<p.nb):af (qe p b g f y) (qe p b g f s):=by
 unfold qe;rw[Kg e r.fm a i d,e.ms.1];by_cases c:s.ms.n<8/\1<=rq p s b g f
 .rw[if_pos c,if_pos c];exact F5 e _ (k:=(jf y ⟨g,f,b,rq p s b g f⟩).ms) rfl (λj l=>if_neg ow) (if_pos rfl)
 rw[if_neg c,if_neg c];exact e
theorem afa(a:b<p.nb)(c:(p.zb b).front=true)(d:g<p.ns)(L:List (Bn p false)):∀{s y:St},gx p x s->af y s->af (ka p b g L y) (ka p b g L s):=by
 induction L with
 | nil=>exact λ_ e=>e
 | cons f L ih=>exact λE e=>ih (E.step a c d f.2.1 f.2.2) (Yw E.r e a d f.2.1)
theorem Ra{s0:St}{b:Nat}(c:b<p.nb)(a:(p.zb b).front=true){s y:St}(E:gx p s0 s)(e:af y s):∀{g:Nat},g<=p.ns->af (jp p b g y) (jp p b g s)
 | 0,_=>e
 | g+1,hg=>by
  have d:=Ra c a E e (g:=g) ow;have f:=E.G c a (g:=g) ow;simp only[jp];rw[d.lying f.r.fm c ow]
  split
  .exact d
  exact afa c a ow _ f d
theorem ae9(L:List (Bn p true)):∀{s y:St},gx p x s->af y s->af (ox p L y) (ox p L s):=by
 induction L with
 | nil=>exact λ_ e=>e
 | cons b L ih=>exact λE e=>ih (E.G b.2.1 b.2.2 nlr) (Ra b.2.1 b.2.2 E e nlr)
theorem afb(r:am p s)(e:af y s):af (Du p y) (Du p s):=ae9 _ (gx.refl r) e
theorem adl(r:am p s)(e:af y s)(k n:Int):gj p y k n=gj p s k n:=by
 unfold gj;rw[if_pos (js (e.right r)),if_pos (js r),e.ms.1];cases h:inB k 0 ((s.ms.n:Int)-1)
 .rfl
 have c:=ar h;have a:k.toNat<s.ms.n:=ow;obtain⟨d,f,i,-⟩:=sl (r.fm.move k.toNat a);rw[e.ms.2 k.toNat (by rw[e.ms.1];exact a),e.num r.fm (b:=(s.ms.z k.toNat).b.toNat) (g:=(s.ms.z k.toNat).o.toNat) ow ow]
theorem adm(e:af y s){k f:Nat}{N n:Int}(h:sd p s k f b g N n):af (li y k n) (li s k n):=by
 have i:=h.kn;have a:y.ms.z k=⟨g,f,b,N⟩:=(e.ms.2 k (by rw[e.ms.1];exact i)).trans h.m;have c:li y k n=zu y (Ew y.ms k) f b g n:=by
  unfold li;rw[a];simp only[Int.toNat_natCast]
 rw[c];refine Iy h e (by show y.ms.n-1=_;rw[e.ms.1]) λj d => ?_;have l:j<y.ms.n-1:=d;show(if j<k then y.ms.z j else y.ms.z (j+1))=if j<k then s.ms.z j else s.ms.z (j+1);rw[e.ms.2 j ow,e.ms.2 (j+1) ow]
theorem ac7(r:am p s)(e:af y s)(bin good seen:Int):fs p y bin good seen=fs p s bin good seen:=by
 unfold fs;rw[if_pos (js (e.right r)),if_pos (js r)];cases h:(inB bin 0 ((p.nb:Int)-1)&&inB good 0 ((p.ns:Int)-1)&&inB seen 0 200)
 .rfl
 simp only[Xxx] at h;have c:=ar h.1.1;have d:=ar h.1.2;have b:bin.toNat<p.nb:=ow;have a:good.toNat<p.ns:=ow;rw[e.num r.fm b a,e.sf.2 good.toNat (by rw[e.sf.1,r.fm.sfn];exact a)]
theorem ac8(e:af y s){seen:Int}(h:dr p s b g seen):af (qd p y b g seen) (qd p s b g seen):=by
 have r:=h.r;have d:(y.on.r b).z g=(s.on.r b).z g:=e.num r.fm h.bn h.gn;have f:y.sf.z g=s.sf.z g:=e.sf.2 g (by rw[e.sf.1,r.fm.sfn];exact h.gn);have l:dr p y b g seen:=⟨e.right r,h.bn,h.gn,h.s0,h.s1,by rw[d,f];exact h.fx⟩;have k:fg y b g seen=fg s b g seen:=by unfold fg pk;rw[e.held r.fm,e.from]
 have c:=Va r.fm e b g (fg s b g seen);have S:af (qz y b g seen) (qz s b g seen):=by
  unfold qz;rw[k];exact afc c.1 d f
 refine jc.same h.qin (λ_ _=>rfl) (Nat.le_refl s.os.n) h.all ?_;have a:=l.all;rw[e.os.1] at a;refine jc.base (m':=Cs y) S (λ_ _=>rfl) (λi hi => ?_) (λi j _ _ => ?_) (Nat.le_refl s.os.n) a
 .exact(e.os.2 i (by rw[e.os.1];exact hi)).2.1
 show fa y b g (fg y b g seen) i j=fa s b g (fg s b g seen) i j;rw[k,c.2]
theorem T7{x u:Ax}(r:am p s)(e:af y s)(a:ux u x):doE p y u=doE p s x/\(doE p s x=0->af (doT p y u) (doT p s x)):=by
 obtain⟨K,E,F,G,L,D⟩:=u;obtain⟨A,w,ab,z,B,o,q⟩:=a;simp only at A w ab z B o q;subst A w ab z B;have hs:ag p y=0:=js (e.right r);have v:ag p s=0:=js r;unfold doE doT;dsimp only;by_cases c:x.k=1
 .rw[if_pos c,if_pos c,if_pos c,if_pos c];refine⟨af4 r e _ _ _,λh => ?_⟩;obtain⟨-,H,J,-⟩:=Pp h;exact af6 r e ow ow _
 rw[if_neg c,if_neg c,if_neg c,if_neg c];by_cases d:x.k=2
 .rw[if_pos d,if_pos d,if_pos d,if_pos d];exact⟨adf r e o q,λ_=>adg e o q⟩
 rw[if_neg d,if_neg d,if_neg d,if_neg d];by_cases i:x.k=3
 .rw[if_pos i,if_pos i,if_pos i,if_pos i];exact⟨hs.trans v.symm,λ_=>ajp r e⟩
 rw[if_neg i,if_neg i,if_neg i,if_neg i];by_cases j:x.k=4
 .rw[if_pos j,if_pos j,if_pos j,if_pos j];exact⟨X7 r e _,λh=>Ip e (by rw[e.os.1];exact(Cg h).2.1.2)⟩
 rw[if_neg j,if_neg j,if_neg j,if_neg j];by_cases l:x.k=5
 .rw[if_pos l,if_pos l,if_pos l,if_pos l];exact⟨afy r e _ _ _ _,λh=>af0 e (Rt h)⟩
 rw[if_neg l,if_neg l,if_neg l,if_neg l];by_cases m:x.k=6
 .rw[if_pos m,if_pos m,if_pos m,if_pos m];exact⟨hs.trans v.symm,λ_=>afb r e⟩
 rw[if_neg m,if_neg m,if_neg m,if_neg m];by_cases n:x.k=7
 .rw[if_pos n,if_pos n,if_pos n,if_pos n];exact⟨adl r e _ _,λh=>by obtain⟨f,b,g,N,hi⟩:=Pn h;exact adm e hi⟩
 rw[if_neg n,if_neg n,if_neg n,if_neg n];by_cases t:x.k=8
 .rw[if_pos t,if_pos t];exact⟨ac7 r e _ _ _,λh=>ac8 e (Pd h)⟩
 rw[if_neg t,if_neg t];exact⟨rfl,λh=>absurd h dc⟩
end
def jz(s:St):Nat->Nat
 | 0=>0
 | i+1=>jz s i+(if (s.os.z i).k=2 then 0 else 1)
theorem Ky(s:St):∀k,jz s k<=k
 | 0=>Nat.le_refl _
 | k+1=>by
  have:=Ky s k;simp only[jz]
  split<;>omega
def B0:List UInt8:=[114,101,99,101,105,118,101]
def Hl:List UInt8:=[101,110,116,101,114]
def B5:List UInt8:=[114,101,108,101,97,115,101]
def Dm:List UInt8:=[99,97,110,99,101,108]
def Ma:List UInt8:=[112,105,99,107]
def L9:List UInt8:=[102,105,108,108]
def Hm:List UInt8:=[109,111,118,101,100]
def Hk:List UInt8:=[99,111,117,110,116]
def Tn:List UInt8:=[115,104,101,108,102]
def Tm:List UInt8:=[111,114,100,101,114]
def Tj:List UInt8:=[104,111,108,100,115]
def Tl:List UInt8:=[109,111,118,101,115]
def Xn:List UInt8:=[111,112,101,110]
def j5(l:List UInt8):Nat :=
 if l=B0 then 1 else if l=Hl then 2 else if l=B5 then 3 else if l=Dm then 4 else if l=Ma then 5 else if l=L9 then 6 else if l=Hm then 7 else if l=Hk then 8 else if l=Tn then 9 else if l=Tm then 10 else if l=Tj then 11 else if l=Tl then 12 else if l=Xn then 13 else 0
def py:List (List UInt8)->Option (List Int)
 | []=>some []
 | w :: ws=>if ie w = -1 then none else(py ws).map (ie w :: ·)
theorem Rq:∀{a:List (List UInt8)} {l:List Int},py a=some l->l=a.map ie/\∀w∈a,ie w ≠ -1
 | [],l,h=>by
  cases h;exact⟨rfl,λ_ h=>ix⟩
 | w :: a,l,h=>by
  rw[py] at h;by_cases c:ie w = -1
  .rw[if_pos c] at h;cases h
  rw[if_neg c] at h;obtain⟨f,b,rfl⟩:=Option.map_eq_some_iff.1 h;obtain⟨d,e⟩:=Rq b;subst d;exact⟨rfl,Qjx ⟨c,e⟩⟩
theorem Nc:∀{a:List (List UInt8)},(∀w∈a,ie w ≠ -1)->py a=some (a.map ie)
 | [],_=>rfl
 | w :: a,h=>by
  rw[py,if_neg (h w (List.mem_cons_self ..)),Nc λx hx=>h x (List.mem_cons_of_mem _ hx)]
  rfl
theorem Kw:∀{a:List (List UInt8)} {w:List UInt8},w∈a->ie w = -1->py a=none
 | x :: a,w,h,e=>by
  rw[py];by_cases c:ie x = -1
  .rw[if_pos c]
  rw[if_neg c];rcases List.mem_cons.1 h with rfl|h
  .exact absurd e c
  rw[Kw h e];rfl
def Ah(l:List Int)(j:Nat):Hd:=⟨l.getD (2*j) 0,l.getD (2*j+1) 0,0,0⟩
def jt:Hs:=⟨none,0,0,λ_=>⟨0,0,0,0⟩⟩
def tn(k:Nat)(l:List Int):Option Ax :=
 if k=1 then(if l.length=3 then some ⟨1,l.getD 0 0,l.getD 1 0,0,l.getD 2 0,jt⟩ else none)
 else if k=2 then(if l.length%2=0/\2<=l.length/\l.length<=6 then some ⟨2,0,0,0,0,⟨none,l.length/2,0,Ah l⟩⟩ else none)
 else if k=3 then(if l.length=0 then some ⟨3,0,0,0,0,jt⟩ else none)
 else if k=4 then(if l.length=1 then some ⟨4,l.getD 0 0,0,0,0,jt⟩ else none)
 else if k=5 then(if l.length=4 then some ⟨5,l.getD 0 0,l.getD 1 0,l.getD 2 0,l.getD 3 0,jt⟩ else none)
 else if k=6 then(if l.length=0 then some ⟨6,0,0,0,0,jt⟩ else none)
 else if k=7 then(if l.length=2 then some ⟨7,l.getD 0 0,0,0,l.getD 1 0,jt⟩ else none)
 else if k=8 then(if l.length=3 then some ⟨8,l.getD 0 0,l.getD 1 0,0,l.getD 2 0,jt⟩ else none)
 else none
def ou(x:Hd):List Int:=[x.o,x.l,x.b,x.n]
def ny(x:Hd):List Int:=[x.l,x.b,x.n]
def j6(f:Nat->List Int):Nat->List Int
 | 0=>[]
 | n+1=>j6 f n++f n
theorem Ch{f g:Nat->List Int}:∀{n:Nat},(∀i,i<n->f i=g i)->j6 f n=j6 g n
 | 0,_=>rfl
 | n+1,h=>by rw[j6,j6,Ch λi hi=>h i ow,h n ow]
theorem Gc{f:Nat->List Int}{x:Int}:∀{n:Nat},x∈j6 f n->∃i,i<n/\x∈f i
 | n+1,h=>by
  rcases List.mem_append.1 h with h|h
  .obtain⟨i,hi,hx⟩:=Gc h;exact⟨i,ow,hx⟩
  exact⟨n,ow,h⟩
def ua(s:St)(b:Nat):List Int:=j6 (λg=>[(s.on.r b).z g]) (s.on.r b).n
def m9(s:St)(o:Nat):List Int:=(s.os.z o).k :: j6 (λj=>ny ((s.os.z o).ls.z j)) (s.os.z o).ls.n
def xi(s:St):List Int:=j6 (λj=>ou (s.hs.z j)) s.hs.n
def xj(s:St):List Int:=j6 (λj=>ou (s.ms.z j)) s.ms.n
def fe(p:Pl)(s:St)(k:Nat)(l:List Int):Option (Int × List Int):=
 if k=9 then(if l.length=1 then(if inB (l.getD 0 0) 0 ((p.nb:Int)-1) then some (0,ua s (l.getD 0 0).toNat) else some (4,[])) else none)
 else if k=10 then(if l.length=1 then(if inB (l.getD 0 0) 0 ((s.os.n:Int)-1) then some (0,m9 s (l.getD 0 0).toNat) else some (4,[])) else none)
 else if k=11 then(if l.length=0 then some (0,xi s) else none)
 else if k=12 then(if l.length=0 then some (0,xj s) else none)
 else if k=13 then(if l.length=0 then some (0,[(jz s s.os.n:Int)]) else none)
 else none
def l7(l:List Int):List UInt8:=Lib.join (l.map Lib.itoa) [32]
def okL:List UInt8:=[111,107]
def pa(e:Int):List UInt8:=[101,114,114,111,114,32]++Lib.itoa e
def yx(p:Pl)(s:St)(k:Nat)(l:List Int):Int × St × List UInt8 :=
 match tn k l with
 | some x=>if doE p s x=0 then(0,doT p s x,okL) else(doE p s x,s,[])
 | none=>match fe p s k l with
  | some (e,o)=>(e,s,l7 o)
  | none=>(1,s,[])
def Ff(p:Pl)(s:St)(t:List UInt8):Int × St × List UInt8 :=
 match py (fc 32 [] t).tail with
 | some l=>yx p s (j5 ((fc 32 [] t).headD [])) l
 | none=>(1,s,[])
def jh(p:Pl)(s:St)(t:List UInt8):St:=(Ff p s t).2.1
def ij(p:Pl)(s:St)(t:List UInt8):List UInt8:=if (Ff p s t).1=0 then(Ff p s t).2.2 else pa (Ff p s t).1
def Bk(p:Pl)(s:St)(ls:List (List UInt8)):St:=ls.foldl (jh p) s
def nw(p:Pl)(s:St):List (List UInt8)->List UInt8
 | []=>[]
 | t :: ls=>ij p s t++[10]++nw p (jh p s t) ls
theorem Ru(p:Pl)(s:St)(ls:List (List UInt8))(t:List UInt8):Bk p s (ls++[t])=jh p (Bk p s ls) t:=by
 unfold Bk;rw[List.foldl_append]
 rfl
theorem Le(p:Pl):∀(ls:List (List UInt8)) (s:St) (t:List UInt8),nw p s (ls++[t])=nw p s ls++(ij p (Bk p s ls) t++[10])
 | [],s,t=>by simp[nw,Bk]
 | x :: ls,s,t=>by
  rw[Xqz,nw,nw,Le p ls];simp[Bk]
section
variable {p:Pl} {s y:St}
theorem adb(r:am p s)(k:Nat)(l:List Int):am p (yx p s k l).2.1:=by
 unfold yx;cases tn k l with
 | some x =>
  by_cases h:doE p s x=0
  .simp only[if_pos h];exact(aq1 h).2
  simp only[if_neg h];exact r
 | none =>
  cases fe p s k l with
  | some q=>exact r
  | none=>exact r
theorem Ke(r:am p s)(t:List UInt8):am p (jh p s t):=by
 unfold jh Ff;cases py (fc 32 [] t).tail with
 | some l=>exact adb r _ l
 | none=>exact r
theorem A7:∀(ls:List (List UInt8)) {s:St},am p s->am p (Bk p s ls)
 | [],_,r=>r
 | t :: ls,s,r=>A7 ls (s:=jh p s t) (Ke r t)
theorem Rs(e:af y s):∀{n:Nat},n<=y.os.n->jz y n=jz s n
 | 0,_=>rfl
 | n+1,h=>by rw[jz,jz,Rs e ow,(e.os.2 n ow).1]
theorem agk(r:am p s)(e:af y s)(k:Nat)(l:List Int):fe p y k l=fe p s k l:=by
 unfold fe;have u:∀b:Nat,b<p.nb->ua y b=ua s b:=λb v=>by
  have a:b<y.on.n:=by rw[e.on.1,r.fm.sh.n];exact v
  unfold ua;rw[(e.on.2 b a).1];exact Ch λi hi=>by rw[(e.on.2 b a).2 i (by rw[(e.on.2 b a).1];exact hi)]
 have f:∀o:Nat,o<s.os.n->m9 y o=m9 s o:=λo w=>by
  have j:o<y.os.n:=by rw[e.os.1];exact w
  obtain⟨q,d,t⟩:=e.os.2 o j;unfold m9;rw[q,d,Ch λi hi=>by rw[t i (by rw[d];exact hi)]]
 have g:xi y=xi s:=by
  unfold xi;rw[e.hs.1];exact Ch λi hi=>by rw[e.hs.2 i (by rw[e.hs.1];exact hi)]
 have h:xj y=xj s:=by
  unfold xj;rw[e.ms.1];exact Ch λi hi=>by rw[e.ms.2 i (by rw[e.ms.1];exact hi)]
 rw[g,h,Rs e nlr,e.os.1];have x:(if inB (l.getD 0 0) 0 ((p.nb:Int)-1)=true then some ((0:Int),ua y (l.getD 0 0).toNat) else some (4,[]))=(if inB (l.getD 0 0) 0 ((p.nb:Int)-1)=true then some ((0:Int),ua s (l.getD 0 0).toNat) else some (4,[])):=by
  by_cases c:inB (l.getD 0 0) 0 ((p.nb:Int)-1)=true
  .rw[if_pos c,if_pos c,u _ (by have:=ar c;omega)]
  rw[if_neg c,if_neg c]
 have m:(if inB (l.getD 0 0) 0 ((s.os.n:Int)-1)=true then some ((0:Int),m9 y (l.getD 0 0).toNat) else some (4,[]))=(if inB (l.getD 0 0) 0 ((s.os.n:Int)-1)=true then some ((0:Int),m9 s (l.getD 0 0).toNat) else some (4,[])):=by
  by_cases c:inB (l.getD 0 0) 0 ((s.os.n:Int)-1)=true
  .rw[if_pos c,if_pos c,f _ (by have:=ar c;omega)]
  rw[if_neg c,if_neg c]
 rw[x,m]
theorem ae6(r:am p s)(e:af y s){k:Nat}{l:List Int}:(yx p y k l).1=(yx p s k l).1/\(yx p y k l).2.2=(yx p s k l).2.2/\af (yx p y k l).2.1 (yx p s k l).2.1:=by
 unfold yx;cases tn k l with
 | some x =>
  obtain⟨a,b⟩:=T7 r e (ux.self x);dsimp only;rw[a];by_cases h:doE p s x=0
  .rw[if_pos h,if_pos h];exact⟨rfl,rfl,b h⟩
  rw[if_neg h,if_neg h];exact⟨rfl,rfl,e⟩
 | none =>
  dsimp only;rw[agk r e];cases fe p s k l with
  | some q=>exact⟨rfl,rfl,e⟩
  | none=>exact⟨rfl,rfl,e⟩
theorem M4(r:am p s)(e:af y s)(t:List UInt8):ij p y t=ij p s t/\af (jh p y t) (jh p s t):=by
 unfold ij jh Ff;cases py (fc 32 [] t).tail with
 | some l =>
  obtain⟨a,b,c⟩:=ae6 r e (k:=j5 ((fc 32 [] t).headD [])) (l:=l);dsimp only;rw[a,b];exact⟨rfl,c⟩
 | none=>exact⟨rfl,e⟩
end
def pi(p:Pl)(t:List UInt8):Int :=
 if iu p=0 then(if 4096<t.length\/60<t.count 10 then 2 else if t≠[]/\t.getLast?≠some 10 then 1 else 0) else iu p
def za(p:Pl)(s:St)(t:List UInt8):List UInt8:=if pi p t=0 then nw p s (mp 10 [] t) else []
structure aqk(w:World)(p:Addr):Prop where
 cell:∃z,w.cell? p=some (.int .i64 z)
 frozen:w.frozen? p=false
 lt:p.block<w.heap.size
theorem aqk.set{p:Addr}(h:aqk w p)(q:Addr)(v:Int):aqk (w.setCell q (.int .i64 v)) p:=by
 refine⟨?_,(World.frozen?_setCell ..).trans h.frozen,by simpa[World.setCell] using h.lt⟩;by_cases e:p=q
 .subst e;obtain⟨z,a⟩:=h.cell;exact⟨v,World.cell?_setCell_same _ _ _ a⟩
 obtain⟨z,a⟩:=h.cell;exact⟨z,(World.cell?_setCell_other _ _ _ _ (λb=>e b.symm)).trans a⟩
theorem Bu(t:List UInt8){k:Nat}(a:k<t.length)(w:World):(Instr.index 9 (.string ⟨t.toArray⟩) (.int .i64 (k:Int))).run prog w = .ok (.int .u8 (rdN t k)) w:=by
 have hs:(⟨t.toArray⟩:ByteArray).size=t.length:=by simp[ByteArray.size]
 rw[run_index_string w 9 _ .i64 (k:Int) underlying9,dif_pos ⟨ow,by rw[hs];omega⟩]
 congr 2
 unfold rdN;simp only[List.getD,List.getElem?_eq_getElem a,Option.getD_some];simp[ByteArray.getElem_eq_getElem_data]
theorem Ao(a b:List UInt8):(⟨a.toArray⟩:ByteArray)++⟨b.toArray⟩=⟨(a++b).toArray⟩:=by
 apply ByteArray.ext
 simp
theorem awt{a b:List UInt8}:((⟨a.toArray⟩:ByteArray)=⟨b.toArray⟩)↔a=b:=by
 constructor
 .intro h;have:=congrArg (λx:ByteArray=>x.data.toList) h
  simpa using this
 rintro rfl;rfl
theorem aig(w:World)(d:UInt8):(convert 44 9 (.slice (some ⟨w.heap.size,0,none⟩) 1 1)).run prog (w.alloc (.cells #[.int .u8 (d.toNat:Int)] 5)) = .ok (.string ⟨#[d]⟩) (w.alloc (.cells #[.int .u8 (d.toNat:Int)] 5)):=by
 have:=run_convert_bytes_back (P:=prog) (w.alloc (.cells #[.int .u8 (d.toNat:Int)] 5)) 44 9 5 ⟨w.heap.size,0,none⟩ 1 [d] underlying44 underlying5 underlying9 (λj hj=>by
  have a:j=0:=Jv;subst a;exact(Blk.new w #[.int .u8 (d.toNat:Int)] 5).cell (j:=0) (Nat.zero_lt_one))
 exact this
theorem Qn(n:Nat)(o:n<=999999)(w:World):
  Calls prog 37 #[.int .i64 (n:Int)] w λe w'=>e = .returned (.string ⟨(Lib.decDigits n).toArray⟩)/\Bw w w':=by
 induction n using Nat.strongRecOn generalizing w with
 | _ n ih =>
 obtain⟨D,a⟩:∃D,UInt8.ofNat (48+n%10)=D:=⟨_,rfl⟩;have hc:=aig w D;have k:(D.toNat:Int)=48+(n:Int)%10:=by rw[<-a,Ol ow];omega
 rw[k] at hc;have b:Hid (Bw w (w.alloc (.cells #[.int .u8 (48+(n:Int)%10)] 5))):=brf.alloc nlr _;have f:Hid (Lib.decDigits n=if n<10 then [D] else Lib.decDigits (n/10)++[D]):=by
  show _=_;by_cases h:n<10
  .rw[if_pos h,<-a,Lib.decDigits_one h,Nat.mod_eq_of_lt h]
  rw[if_neg h,<-a,Lib.decDigits,dif_neg h]
 clear a k;go_enter func37,ntmps37;by_cases h:n<10
 .have l:(n:Int)<10:=ow;clear ih;go_wp2_with fail;go_ret;exact⟨by rw[f.o,if_pos h];rfl,b.o⟩
 have l:¬(n:Int)<10:=ow;have c:=ih (n/10) ow ow;have j:((n/10:Nat):Int)=(n:Int)/10:=ow;rw[j] at c;have g:=hid c;clear ih c j;go_wp2_with fail;refine(g.o _).mono ?_;rintro e w1 ⟨rfl,i⟩;have d:=hid (b.o.trans (i.mono b.o.size));clear i;have hs:({ data:=(Lib.decDigits (n/10)).toArray }:ByteArray)++{ data:=#[D] }=⟨(Lib.decDigits n).toArray⟩:=by rw[f.o,if_neg h,<-Ao]
 have m:(Lib.decDigits (n/10)).length<=6:=(Oj ow).2;go_wp2_with fail;go_ret;exact⟨rfl,d.o⟩
theorem Zr{l:List UInt8}(h:i<l.length):l.take (i+1)=l.take i++[l.getD i 0]:=by
 rw[List.take_add_one];simp[List.getD,List.getElem?_eq_getElem h]
theorem ajf{l:List UInt8}(h:i<l.length)(hd:yy (l.getD i 0)=true):(ve (l.take (i+1)):Int)=10*(ve (l.take i):Int)+(rdN l i-48):=by
 rw[Zr h,Vy];exact abv
theorem awk(l:List UInt8)(z:l.length<=4096)(w:World):
  Calls prog 69 #[.string ⟨l.toArray⟩] w λe w'=>e = .returned (.int .i64 (ie l))/\Bw w w':=by
 have B:=yt l;go_enter func69,ntmps69;by_cases d:1<=l.length/\l.length<=6;rotate_left
 .have r:inB (l.length:Int) 1 6=false:=Rg ow;have a:Hid (ie l = -1):=by
   show _=_;unfold ie;rw[if_neg (λh=>d h.1)]
  go_wp2_with(go_at_call 34;refine ap (da _ _ _ _) ?_);go_ret;exact⟨by rw[a.o];rfl,Below.refl _ _⟩
 have r:inB (l.length:Int) 1 6=true:=cy ow;go_wp2_with(go_at_call 34;refine ap (da _ _ _ _) ?_)
 go_loopw [3,4] (λs g t=>∃i:Nat,i<=l.length/\g = .int .i64 i/\s = .int .i64 (ve (l.take i):Nat)/\Hid ((l.take i).all yy=true)/\t=w) (λ_ g _=>l.length-(intOf g).toNat)
 case atStart=>exact⟨0,Qxz _,rfl,rfl,rfl,rfl⟩
 obtain⟨i,hi,rfl,rfl,f,rfl⟩:=hrel;have A:ve (l.take i)<1000000:=by
  have:=ad8 _ f.o;have y:10^(l.take i).length<=10^6:=Nat.pow_le_pow_right dc alh;omega
 by_cases hlt:i<l.length;rotate_left
 .have q0:¬(i:Int)<(l.length:Int):=ow;have k:i=l.length:=ow;subst k;have a:Hid (ie l=if Lib.decDigits (ve l)=l then(ve l:Int) else -1):=by
   show _=_;unfold ie;have:=f.o;rw[List.take_length] at this;by_cases c:Lib.decDigits (ve l)=l
   .rw[if_pos c,if_pos ⟨d,this,c⟩]
   rw[if_neg c,if_neg (λh=>c h.2.2)]
  rw[List.take_length] at *;have o:Hid (∀w,Calls prog 37 _ w _):=Qn (ve l) ow;by_cases c:Lib.decDigits (ve l)=l
  .have b:Hid (ie l=(ve l:Int)):=by show _=_;rw[a.o,if_pos c]
   exact am4
  have b:Hid (ie l = -1):=by show _=_;rw[a.o,if_neg c]
  generalize hE:Lib.decDigits (ve l)=E at *
  have x:(E==l)=false:=by simpa using c
  clear hE c;exact am4
 have q0:(i:Int)<(l.length:Int):=ow;have v:=Bu l hlt;have zb:=axg l i;by_cases hd:yy (l.getD i 0)=true
 .have p:Hid ((ve (l.take (i+1)):Int)=10*(ve (l.take i):Int)+(rdN l i-48)):=ajf hlt hd;have j:Hid ((l.take (i+1)).all yy=true):=by
   show _=true;rw[Zr hlt,List.all_append,f.o,List.all_cons,hd]
   rfl
  have m:48<=rdN l i/\rdN l i<=57:=abv;clear hd
  generalize rdN l i=Z at *
  have n:¬Z<48:=ow;have u:¬57<Z:=ow;go_wp2_with fail;exact⟨⟨i+1,ow,vo,by rw[p.o],j,trivial⟩,Cy⟩
 have a:Hid (ie l = -1):=by
  show _=_;unfold ie;rw[if_neg (λh=>hd (List.all_eq_true.1 h.2.1 _ as4))]
 have m:rdN l i<48\/57<rdN l i:=abv;clear hd
 generalize rdN l i=Z at *
 rcases m with n|u
 .exact ao4
 have n:¬Z<48:=ow;exact ao4
theorem wn{size:Nat}{n:Nat}(h:w.ownsRow A e size v n xs):∃a c,v = .slice a n c/\n<=maxLen:=by
 obtain⟨b,⟨rfl,rfl⟩|⟨g,cap,cur,rfl,d,f,i,j,_⟩⟩:=h
 .exact⟨none,0,rfl,Qxz _⟩
 exact⟨_,_,rfl,ow⟩
theorem tm.bel{L:Nat}(h:tm A e w w')(a:L<=A)(hs:L<=w.heap.size):Below L w w':=h.below brf a hs
theorem zm{size:Nat}{n:Nat}(h:w.ownsRow A e size v n xs)(d:w.grownBy w' v.ownBlock):tm A e w w':=by
 refine⟨_,d,λk a => ?_⟩;obtain⟨_,⟨rfl,_⟩|⟨g,cap,cur,rfl,c,b,_⟩⟩:=h
 .cases a
 simp only[Value.ownBlock,Qkx] at a;subst a;exact⟨c,cur,b⟩
def ju(l:List Int):List Value:=l.map (Value.int .i64)
def xd(l:List (List UInt8)):List Value:=l.map λx => .string ⟨x.toArray⟩
theorem ad3:(prog.info? 9).map (λi=>(i.zero,i.size,i.bytes))=some (some (.string ⟨#[]⟩),1,16):=ko
theorem Ue(w:World)(v:Value)(e:TypeId)(j:Nat)(u:Value)(a : [v][j]?=some u):(w.alloc (.cells #[v] e)).cell? ((⟨w.heap.size,0,none⟩:Addr).add j)=some u:=by
 match j,a with
 | 0,a =>
  simp at a;subst a;exact(Blk.new w #[v] e).cell (j:=0) Nat.zero_lt_one
theorem Wr(a:Option Addr)(c:Nat)(d:List (List UInt8))(w:World)(h:qx w a d)(hc:d.length<=c)(hn:d.length<=4097)(V:∀x∈d,x.length<=4096):
  Calls prog 38 #[.slice a d.length c] w λe w' =>
   ((∃l f g,py d=some l/\e = .returned (.tuple #[.slice f l.length g,.bool true])/\w'.ownsRow w.heap.size 3 1 (.slice f l.length g) l.length (ju l))\/(py d=none/\e = .returned (.tuple #[.slice none 0 0,.bool false])))/\Bw w w':=by
 have HS:=hid h;have HL:=hid V;obtain⟨iI,M,Q,S,T⟩:=info_parts Ad;clear h V;go_enter func38,ntmps38;go_wp2_with fail
 go_loopw [4,5] (λlv H z=>∃(k:Nat) (f:Option Addr) (g:Nat),k<=d.length/\H = .int .i64 k/\lv = .slice f k g/\Hid (z.ownsRow w.heap.size 3 1 (.slice f k g) k (ju ((d.take k).map ie))/\(∀x∈d.take k,ie x ≠ -1)/\Bw w z)) (λ_ H _=>d.length-(intOf H).toNat)
 case atStart=>exact⟨0,none,0,Qxz _,rfl,rfl,World.ownsRow_nil _ _ _ _,(λx hx=>qm),Below.refl _ _⟩
 obtain⟨k,f,g,hk,rfl,rfl,n⟩:=hrel;by_cases X:k<d.length;rotate_left
 .have q0:¬(k:Int)<(d.length:Int):=ow;have U:k=d.length:=ow;subst U;have E:Hid (py d=some (d.map ie)/\wr.ownsRow w.heap.size 3 1 (.slice f d.length g) d.length (ju (d.map ie))/\Bw w wr):=by
   have h:=n.o;rw[List.take_length] at h;exact⟨Nc h.2.1,h.1,h.2.2⟩
  clear n;go_wp2_with fail
  go_ret2
  refine⟨Or.inl ⟨d.map ie,E.o.1,f,g,?_,?_⟩,E.o.2.2⟩
  .rw[List.length_map];rfl
  rw[List.length_map];exact E.o.2.1
 have q0:(k:Int)<(d.length:Int):=ow;obtain⟨x,hx⟩:∃x,d[k]?=some x:=⟨_,List.getElem?_eq_getElem X⟩;obtain⟨b,o,ha,hb,t⟩:=HS.o.below n.o.2.2 k x hx;have HN:Hid (∀z,Calls prog 69 _ z _):=awk x (HL.o x (List.mem_of_getElem? hx));have F:Hid (d.take (k+1)=d.take k++[x]/\x∈d):=⟨akz,List.mem_of_getElem? hx⟩;clear hx;subst ha;go_wp2_with fail;refine(HN.o _).mono ?_;rintro e w1 ⟨rfl,G⟩;have i:Hid (w1.ownsRow w.heap.size 3 1 (.slice f k g) k (ju ((d.take k).map ie))/\(∀x∈d.take k,ie x ≠ -1)/\Bw w w1):=⟨ky n.o.1 G,n.o.2.1,n.o.2.2.trans (G.mono n.o.2.2.size)⟩;clear n G hb t;by_cases v:ie x = -1
 .have K:Hid (py d=none):=Kw F.o.2 v;rw[v];go_wp2_with fail
  go_ret2
  exact⟨Or.inr ⟨K.o,rfl⟩,i.o.2.2⟩
 have HZ:=hid v;have aj:¬ie x<0:=by rcases Rp x with h|⟨u,-,h,-⟩<;>omega
 generalize hZe:ie x=Z at *
 have D:=hid hZe;obtain⟨s,r,q⟩:∃W,w1.alloc (.cells #[.int .i64 Z] 3)=W/\Bw w1 W:=⟨_,rfl,brf.alloc nlr _⟩;have B:=hid r;have A:Hid (∀j u,[Value.int .i64 Z][j]?=some u->s.cell? ((⟨w1.heap.size,0,none⟩:Addr).add j)=some u):=by rw[<-r];exact Ue w1 _ _
 have m:Hid (s.ownsRow w.heap.size 3 1 (.slice f k g) k (ju ((d.take k).map ie))/\Bw w s):=⟨ky i.o.1 q,i.o.2.2.trans (q.mono i.o.2.2.size)⟩;clear r q hZe v;go_wp2_with(at_builtin;rw[B.o];refine wpList_append_own s rfl (.tmp 20) (.tmp 22) 23 rfl w.heap.size 3 iI (.int .i64 0) 1 8 underlying23 M Q S T rfl dc (.slice f k g) k (ju ((d.take k).map ie)) rfl m.o.1 ⟨w1.heap.size,0,none⟩ 1 1 [.int .i64 Z] rfl rfl A.o (λu hu=>Sj) uo ow m.o.2.size ?_);intro v2 w6 r1 Y _;obtain⟨L,c2,rfl,-⟩:=wn r1;have J:Hid (w6.ownsRow w.heap.size 3 1 (.slice L (k+1) c2) (k+1) (ju ((d.take (k+1)).map ie))/\(∀x∈d.take (k+1),ie x ≠ -1)/\Bw w w6):=by
  refine⟨?_,?_,(zm m.o.1 Y).below m.o.2 nlr m.o.2.size⟩
  .rw[F.o.1,List.map_append,List.map_cons,D.o];unfold ju at r1 ⊢;exact apo
  intro y p;rw[F.o.1] at p;rcases List.mem_append.1 p with p|p
  .exact i.o.2.1 y p
  rw[List.mem_singleton.1 p,D.o];exact HZ.o
 clear r1 Y m A B i
 try simp only[Act.put,Qvq,Qwx,Qwz]
 go_wp2_with fail;go_roundw
 case rel=>exact⟨k+1,L,c2,ow,vo,rfl,J.o⟩
 case measure=>simp[intOf];omega
theorem Zg(t:List UInt8)(f i:Nat):(⟨t.toArray⟩:ByteArray).extract f i=⟨((t.drop f).take (i-f)).toArray⟩:=by
 apply ByteArray.ext
 simp only[ByteArray.data_extract,List.extract_toArray,List.extract_eq_take_drop]
theorem Zf{t:List UInt8}{f:Nat}(a:f<=i)(hi:i<t.length):(t.drop f).take (i+1-f)=(t.drop f).take (i-f)++[t.getD i 0]:=by
 rw[show i+1-f=i-f+1 by omega,List.take_add_one,List.getElem?_drop,show f+(i-f)=i by omega];simp[List.getD,List.getElem?_eq_getElem hi]
theorem Hx{t:List UInt8}(hi:i<t.length):t.drop i=t.getD i 0 :: t.drop (i+1):=by
 rw[List.drop_eq_getElem_cons hi];simp[List.getD,List.getElem?_eq_getElem hi]
theorem Eh{t:List UInt8}{c:UInt8}:rdN t i=(c.toNat:Int)↔t.getD i 0=c:=by
 unfold rdN;constructor
 .intro h
  apply UInt8.toNat_inj.1
  omega
 rintro rfl;rfl
theorem agl{n c2:Nat}{a e:Option Addr}{b:World}{P:List (List UInt8)}{X:List UInt8}(h:d.ownsRow w.heap.size 9 1 (.slice a n c) n (xd P)/\n=P.length/\Bw w d)
  (g:b.ownsRow w.heap.size 9 1 (.slice e (n+1) c2) (n+1) (xd P++[.string ⟨X.toArray⟩])) (i:d.grownBy b (Value.slice a n c).ownBlock) :
  n+1=(P++[X]).length/\b.ownsRow w.heap.size 9 1 (.slice e (P++[X]).length c2) (P++[X]).length (xd (P++[X]))/\Bw w b:=by
 have f:n+1=(P++[X]).length:=by rw[List.length_append,List.length_singleton,h.2.1]
 refine⟨f,?_,(zm h.1 i).below h.2.2 nlr h.2.2.size⟩;rw[<-f];unfold xd at g ⊢;rw[List.map_append];exact g
theorem aj0(l:List UInt8)(hl:l.length<=4096)(w:World):
  Calls prog 35 #[.string ⟨l.toArray⟩] w λe w'=>∃a c,e = .returned (.slice a (fc 32 [] l).length c)/\w'.ownsRow w.heap.size 9 1 (.slice a (fc 32 [] l).length c) (fc 32 [] l).length (xd (fc 32 [] l))/\Bw w w':=by
 have tl:=yt l;obtain⟨iI,J,K,L,M⟩:=info_parts ad3;have H:Hid ((fc 32 [] l).length<=4097):=by
  have:(fc 32 [] l).length=l.count 32+1:=Ef;have:=List.count_le_length (a:=(32:UInt8)) (l:=l);show _<=_;omega
 go_enter func35,ntmps35;go_wp2_with fail
 go_loopw [3,4,5] (λov Y E U=>∃(i f n:Nat) (P:List (List UInt8)) (a:Option Addr) (c:Nat),i<=l.length+1/\f<=i/\E = .int .i64 i/\Y = .int .i64 f/\ov = .slice a n c/\Hid (n=P.length/\U.ownsRow w.heap.size 9 1 (.slice a P.length c) P.length (xd P)/\(i<=l.length->P++fc 32 ((l.drop f).take (i-f)) (l.drop i)=fc 32 [] l)/\(l.length<i->P=fc 32 [] l)/\Bw w U)) (λ_ _ E _=>l.length+1-(intOf E).toNat)
 case atStart=>exact⟨0,0,0,[],none,0,Qxz _,Nat.le_refl _,rfl,rfl,rfl,rfl,World.ownsRow_nil _ _ _ _,λ_=>vq,λh=>absurd h ow,Below.refl _ _⟩
 obtain⟨i,f,n,P,a,c,hi,hf,rfl,rfl,rfl,d⟩:=hrel;by_cases B:i<=l.length;rotate_left
 .have q0:¬(i:Int)<=(l.length:Int):=ow;have G:=d.o.2.2.2.1 ow;go_wp2_with fail;go_ret;refine⟨a,c,?_,?_,d.o.2.2.2.2⟩
  .rw[<-G,d.o.1];rfl
  rw[<-G];exact d.o.2.1
 have q0:(i:Int)<=(l.length:Int):=ow;have p:Hid (P++fc 32 ((l.drop f).take (i-f)) (l.drop i)=fc 32 [] l):=d.o.2.2.1 B;have af:n<=4097:=by
  have k:=congrArg List.length p.o;rw[List.length_append] at k;have:=H.o;have:=d.o.1;omega
 by_cases b:i=l.length\/l.getD i 0=32;rotate_left
 .simp only[not_or] at b;have m:i<l.length:=ow;have S:((i:Int)==(l.length:Int))=false:=oq;have A:=Bu l m;have ag:(rdN l i==32)=false:=by
   rw[beq_eq_false_iff_ne];exact λh=>b.2 (Eh.1 h)
  have r:Hid (P++fc 32 ((l.drop f).take (i+1-f)) (l.drop (i+1))=fc 32 [] l):=by
   have k:=p.o;rw[Hx m,fc,if_neg b.2,<-Zf hf m] at k;exact k
  generalize rdN l i=Z at *
  clear b p;go_wp2_with fail;exact⟨⟨i+1,f,n,P,a,c,ow,ow,vo,rfl,rfl,d.o.1,d.o.2.1,λ_=>r.o,λh=>absurd h ow,d.o.2.2.2.2⟩,Cy⟩
 have r:Hid ((i+1<=l.length->(P++[(l.drop f).take (i-f)])++fc 32 ((l.drop (i+1)).take (i+1-(i+1))) (l.drop (i+1))=fc 32 [] l)/\(l.length<i+1->P++[(l.drop f).take (i-f)]=fc 32 [] l)):=by
  rcases Nat.lt_or_ge i l.length with m|Q
  .refine⟨λ_ => ?_,λh=>absurd h ow⟩;have x:l.getD i 0=32:=b.resolve_left ow;have k:=p.o;rw[Hx m,x,fc,if_pos rfl] at k;rw[<-k];simp
  refine⟨λh=>absurd h ow,λ_ => ?_⟩;have k:=p.o;rw[List.drop_eq_nil_of_le Q,fc] at k;exact k
 obtain⟨X,D⟩:∃X,(l.drop f).take (i-f)=X:=⟨_,rfl⟩;have ab:(⟨l.toArray⟩:ByteArray).extract f i=⟨X.toArray⟩:=by rw[Zg,D]
 rw[D] at r;obtain⟨v,t,s⟩:∃W,wr.alloc (.cells #[.string ⟨X.toArray⟩] 9)=W/\Bw wr W:=⟨_,rfl,brf.alloc nlr _⟩;have z:=hid t;have y:Hid (∀j u,[Value.string ⟨X.toArray⟩][j]?=some u->v.cell? ((⟨wr.heap.size,0,none⟩:Addr).add j)=some u):=by rw[<-t];exact Ue wr _ _
 have o:Hid (v.ownsRow w.heap.size 9 1 (.slice a n c) n (xd P)/\n=P.length/\Bw w v):=⟨by rw[d.o.1];exact ky d.o.2.1 s,d.o.1,d.o.2.2.2.2.trans (s.mono d.o.2.2.2.2.size)⟩;have ae:=hid b;clear t s p d D;rcases Nat.eq_or_lt_of_le B with g|g
 .have S:((i:Int)==(l.length:Int))=true:=by rw[g];simp
  clear g b;exact atw
 have S:((i:Int)==(l.length:Int))=false:=oq;have x:rdN l i=32:=Eh.2 (b.resolve_left ow);have A:=Bu l g;rw[x] at A;clear g b x;exact atw
theorem ai1:∀(l:List (List UInt8)) (x:List UInt8),Lib.join (l++[x]) [32]=if l=[] then x else Lib.join l [32]++[32]++x
 | [],x=>by simp[Lib.join_one]
 | y :: l,x=>by
  rw[Xqz,Lib.join_cons,if_neg vq,Lib.join_cons];have h:=Lib.joinTail_take_succ [32] (l++[x]) l.length x vq;rw[List.take_of_length_le vq,List.take_left' rfl] at h;rw[h];simp
theorem Pm(l:List Int)(x:Int):l7 (l++[x])=if l=[] then Lib.itoa x else l7 l++[32]++Lib.itoa x:=by
 unfold l7;rw[List.map_append,List.map_cons,List.map_nil,ai1];by_cases h:l=[]
 .subst h;rfl
 rw[if_neg h,if_neg Hb]
theorem ad4{x:Int}(h:0<=x):Lib.itoa x=Lib.decDigits x.toNat:=by
 have:=Lib.itoa_nonneg x.toNat
 rwa[show(x.toNat:Int)=x by omega] at this
theorem Gp{x:Int}(h:0<=x/\x<=999999):(Lib.itoa x).length<=6:=by
 rw[ad4 h.1];exact(Oj ow).2
theorem Fo:∀(l:List Int) (k:Nat),(∀x∈l,0<=x/\x<=999999)->(l7 (l.take k)).length<=7*k
 | l,0,_=>by simp[l7,Lib.join_nil]
 | l,k+1,h=>by
  have d:=Fo l k h;rcases Nat.lt_or_ge k l.length with a|b
  .have hx:=Gp (h (l[k]) (List.getElem_mem a));rw[List.take_add_one,List.getElem?_eq_getElem a];show(l7 (l.take k++[l[k]])).length<=_;rw[Pm];by_cases c:l.take k=[]
   .rw[if_pos c];omega
   rw[if_neg c,List.length_append,List.length_append,List.length_singleton];omega
  rw[List.take_of_length_le ow];rw[List.take_of_length_le b] at d;omega
theorem Qo(x:Int)(h:0<=x/\x<=999999)(w:World):
  Calls prog 37 #[.int .i64 x] w λe w'=>e = .returned (.string ⟨(Lib.itoa x).toArray⟩)/\Bw w w':=by
 have:=Qn x.toNat ow w;rw[show(x.toNat:Int)=x by omega,<-ad4 h.1] at this;exact this
theorem I7(e:Int)(h:0<=e/\e<=999999)(w:World):
  Calls prog 36 #[.int .i64 e] w λr w'=>r = .returned (.string ⟨(pa e).toArray⟩)/\Bw w w':=by
 have a:Hid (∀w,Calls prog 37 _ w _):=Qo e h;have hs:(⟨#[101,114,114,111,114,32]⟩:ByteArray)++⟨(Lib.itoa e).toArray⟩=⟨(pa e).toArray⟩:=by
  unfold pa;rw[<-Ao]
 have c:=Gp h;go_enter func36,ntmps36;go_wp2_with fail;refine(a.o _).mono ?_;rintro r w1 ⟨rfl,b⟩;go_wp2_with fail;go_ret;exact⟨rfl,b⟩
theorem afo(a:Option Addr)(c:Nat)(l:List Int)(w:World)(hi:lw w a l.length (λj=>l.getD j 0))(hn:l.length<=100000)(A:∀x∈l,0<=x/\x<=999999):
  Calls prog 42 #[.slice a l.length c] w λe w'=>e = .returned (.string ⟨(l7 l).toArray⟩)/\Bw w w':=by
 have G:=hid hi;have v:=hid A;clear hi A;go_enter func42,ntmps42;go_wp2_with fail
 go_loopw [3,4] (λL u M=>∃(k:Nat),k<=l.length/\u = .int .i64 k/\L = .string ⟨(l7 (l.take k)).toArray⟩/\Hid (Bw w M)) (λ_ u _=>l.length-(intOf u).toNat)
 case atStart=>exact N6
 obtain⟨k,hk,rfl,rfl,g⟩:=hrel;have E:=Fo l k v.o;by_cases q:k<l.length;rotate_left
 .have q0:¬(k:Int)<(l.length:Int):=ow;have D:k=l.length:=ow;subst D;rw[List.take_length] at *;go_wp2_with fail;go_ret;exact⟨rfl,g.o⟩
 have q0:(k:Int)<(l.length:Int):=ow;obtain⟨x,hx⟩:∃x,l[k]?=some x:=⟨_,List.getElem?_eq_getElem q⟩;obtain⟨b,o,J,Q,d⟩:=G.o.below g.o k q;have B:l.getD k 0=x:=by simp[List.getD,hx]
 dsimp only at d;rw[B] at d;have s:=v.o x (List.mem_of_getElem? hx);have F:Hid (∀w,Calls prog 37 _ w _):=Qo x s;have X:=Gp s;have f:l7 (l.take (k+1))=if l.take k=[] then Lib.itoa x else l7 (l.take k)++[32]++Lib.itoa x:=by
  rw[List.take_add_one,hx];exact Pm _ _
 obtain⟨T,t⟩:∃T,l7 (l.take (k+1))=T:=⟨_,rfl⟩;obtain⟨S,i⟩:∃S,l7 (l.take k)=S:=⟨_,rfl⟩;rw[t,i] at f;have H:=hid t;have n:k=0->S=[]:=λh=>by subst h;rw[<-i];rfl
 have p:k≠0->¬l.take k=[]:=λh e=>by
  have:=congrArg List.length e;rw[List.length_take,List.length_nil] at this;omega
 rw[i] at E ⊢;clear hx B t i;subst J;by_cases m:k=0
 .rw[if_pos (by rw[m];rfl)] at f;have hs:(⟨S.toArray⟩:ByteArray)++⟨(Lib.itoa x).toArray⟩=⟨T.toArray⟩:=by rw[Ao,n m,f];rfl
  have K:¬(0:Int)<(k:Int):=ow;exact aut
 rw[if_neg (p m)] at f;have V:(⟨S.toArray⟩:ByteArray)++⟨#[32]⟩=⟨(S++[32]).toArray⟩:=Ao S [32];have W:(⟨(S++[32]).toArray⟩:ByteArray)++⟨(Lib.itoa x).toArray⟩=⟨T.toArray⟩:=by rw[Ao,f]
 have U:(S++[32]).length=S.length+1:=vq;have K:(0:Int)<(k:Int):=ow
 generalize S++[32]=Y at *
 exact aut
def rdL(t:List UInt8)(i:Nat):Hd:=⟨rdN t i,rdN t (i+1),rdN t (i+2),rdN t (i+3)⟩
def rdC(t:List UInt8)(k:Nat):Nat:=(rdN t (k+5)).toNat
def rdZ(t:List UInt8)(k j:Nat):Hd:=if j<rdC t k then rdL t (k+6+4*j) else ⟨0,0,0,0⟩
def rdA(t:List UInt8)(k:Nat):Ax:=⟨rdN t k,rdN t (k+1),rdN t (k+2),rdN t (k+3),rdN t (k+4),⟨none,rdC t k,0,rdZ t k⟩⟩
def Gy(t:List UInt8)(k:Nat):Nat:=6+4*rdC t k
def Zq(t:List UInt8)(k:Nat):Bool:=decide (k+6<=t.length)&&decide (rdC t k<=3)&&decide (k+Gy t k<=t.length)
theorem arf{t:List UInt8}{k:Nat}:Zq t k=true↔k+6<=t.length/\rdC t k<=3/\k+Gy t k<=t.length:=by
 unfold Zq;simp only[Xxx,decide_eq_true_eq,and_assoc]
def Ex(t:List UInt8):Nat->Nat->List Ax × Nat
 | 0,k=>([],k)
 | f+1,k=>if Zq t k then(rdA t k :: (Ex t f (k+Gy t k)).1,(Ex t f (k+Gy t k)).2) else([],k)
theorem arm{t:List UInt8}{f k:Nat}(h:Zq t k=true):Ex t (f+1) k=(rdA t k :: (Ex t f (k+Gy t k)).1,(Ex t f (k+Gy t k)).2):=by rw[Ex,if_pos h]
def Ul(t:List UInt8):List Ax:=if 4096<t.length then [] else(Ex t 60 0).1
def arn(t:List UInt8):Nat:=if 4096<t.length then 0 else(Ex t 60 0).2
structure As where
 a:Option Addr
 n:Nat
 c:Nat
 z:Nat->Ax
def As.val(s:As):Value := .slice s.a s.n s.c
def Jd(x:Ax):List Value:=[.int .i64 x.k,.int .i64 x.a,.int .i64 x.b,.int .i64 x.c,.int .i64 x.n,.slice x.ls.a x.ls.n x.ls.c]
def Aa:Nat->(Nat->Ax)->List Value
 | 0,_=>[]
 | n+1,z=>Aa n z++Jd (z n)
theorem Hz(z:Nat->Ax):∀n,(Aa n z).length=n*6
 | 0=>rfl
 | n+1=>by rw[Aa,List.length_append,Hz z n];simp[Jd];omega
theorem Pi{z z':Nat->Ax}:∀{n:Nat},(∀i,i<n->z i=z' i)->Aa n z=Aa n z'
 | 0,_=>rfl
 | n+1,h=>by rw[Aa,Aa,Pi λi hi=>h i ow,h n ow]
theorem Vh{z:Nat->Ax}:∀{n i j:Nat},i<n->j<6->(Aa n z).getD (i*6+j) default=(Jd (z i)).getD j default
 | 0,_,_,h,_=>absurd h (Qzq _)
 | n+1,i,j,hi,hj=>by
  rw[Aa];by_cases h:i=n
  .subst h;simp only[List.getD];rw[List.getElem?_append_right (by rw[Hz];omega),Hz]
   congr 2
   omega
  have:=Vh (z:=z) (n:=n) (i:=i) (j:=j) ow hj;simp only[List.getD] at this ⊢;rw[List.getElem?_append_left (by rw[Hz];omega)];exact this
structure As.At(w:World)(s:As):Prop where
 le:s.n<=s.c
 cap:s.c<=maxLen
 cells:∀i,i<s.n->∃b o,s.a=some ⟨b,o,none⟩/\∀j,j<6->w.cell? ⟨b,o+(i*6+j),none⟩=some ((Jd (s.z i)).getD j default)
 lines:∀i,i<s.n->(s.z i).ls.At w
def hx(t:List UInt8)(k:Nat)(v:Value)(j:Nat):Value:=(#[.int .i64 (rdN t k),.int .i64 (rdN t (k+1)),.int .i64 (rdN t (k+2)),.int .i64 (rdN t (k+3)),.int .i64 (rdN t (k+4)),v]:Array Value).getD j default
theorem Zi(w:World)(Z:Hd)(e:TypeId):∀j u,(dt Z)[j]?=some u->(w.alloc (.cells #[.int .i64 Z.o,.int .i64 Z.l,.int .i64 Z.b,.int .i64 Z.n] e)).cell? ((⟨w.heap.size,0,none⟩:Addr).add j)=some u:=by
 intro j u a;have d:(⟨w.heap.size,0,none⟩:Addr).add j=⟨w.heap.size,j,none⟩:=by
  unfold Addr.add;by_cases h:j=0
  .subst h;rfl
  rw[if_neg h];simp
 rw[d];have K:=Blk.new w #[.int .i64 Z.o,.int .i64 Z.l,.int .i64 Z.b,.int .i64 Z.n] e;have c:j<4:=(List.getElem?_eq_some_iff.1 a).1;rw[K.cell (j:=j) c,<-a]
 match j,c with
 | 0,_|1,_|2,_|3,_=>rfl
def Np(w:World)(b:Nat)(v0 v1 v2 v3 v4 v5:Value):World:=((((((w.setCell ⟨b,0,none⟩ (v0)).setCell ⟨b,1,none⟩ (v1)).setCell ⟨b,2,none⟩ (v2)).setCell ⟨b,3,none⟩ (v3)).setCell ⟨b,4,none⟩ (v4)).setCell ⟨b,5,none⟩ (v5))
theorem Qb{f:Nat->Value}(h:Blk w b e 6 f)(a c d g i k:Value):Blk (Np w b a c d g i k) b e 6 (λj=>(#[a,c,d,g,i,k]:Array Value).getD j default):=
 ((((((h.set 0 a).set 1 c).set 2 d).set 3 g).set 4 i).set 5 k).congr (λj l=>by match j,l with|0,_=>rfl|1,_=>rfl|2,_=>rfl|3,_=>rfl|4,_=>rfl|5,_=>rfl)
theorem Lo{n:Nat}{A:World}(h:Below n A w)(a:n<=b)(c d e f g i:Value):Below n A (Np w b c d e f g i):=
 (((((h.setCell (p:=⟨b,0,none⟩) a c).setCell (p:=⟨b,1,none⟩) a d).setCell (p:=⟨b,2,none⟩) a e).setCell (p:=⟨b,3,none⟩) a f).setCell (p:=⟨b,4,none⟩) a g).setCell (p:=⟨b,5,none⟩) a i
theorem ajm{base:Nat}{size:Nat}{n:Nat}(k:w.ownsRow base e size v n xs){f:Nat->Value}(c:Blk w q t 6 f)(a:t≠e)(b d g h i j:Value):(Np w q b d g h i j).ownsRow base e size v n xs :=
 wm (wm (wm (wm (wm (wm k c a 0 b) (c.set 0 b) a 1 d) ((c.set 0 b).set 1 d) a 2 g) (((c.set 0 b).set 1 d).set 2 g) a 3 h) ((((c.set 0 b).set 1 d).set 2 g).set 3 h) a 4 i) (((((c.set 0 b).set 1 d).set 2 g).set 3 h).set 4 i) a 5 j
def F4(x:Ax)(w:World)(e:Ending)(w':World):Prop:=e = .returned (.tuple #[x.val,.bool true])/\Bw w w'
theorem avt(a:Option Addr)(c:Nat)(d f g:Int)(w:World)(hi:lw w a 3 (λj=>[d,f,g].getD j 0)):
  Calls prog 39 #[.string ⟨#[114,101,99,101,105,118,101]⟩,.slice a 3 c] w λe w'=>F4 ⟨1,d,f,0,g,jt⟩ w e w':=by
 obtain⟨b,o,rfl,p,i⟩:=hi 0 dc;have r:w.cell? ⟨b,o,none⟩=some (.int .i64 d):=i;obtain⟨_,_,m,-,k⟩:=hi 1 dc;cases m;have c1:w.cell? ⟨b,o+1,none⟩=some (.int .i64 f):=k;obtain⟨_,_,n,-,l⟩:=hi 2 dc;cases n;have c2:w.cell? ⟨b,o+2,none⟩=some (.int .i64 g):=l;have q:=Nat.lt_succ_of_lt p;clear hi i k l;go_enter func39,ntmps39;go_wp2_with fail
 go_region
 go_wp2_with fail;refine Xzq (v := .tuple #[(Ax.mk 1 d f 0 g jt).val,.bool true]) L4 rfl ?_;exact⟨rfl,brf.alloc nlr _ |>.drew⟩
theorem avw(a:Option Addr)(c:Nat)(d:Int)(w:World)(hi:lw w a 1 (λj=>[d].getD j 0)):
  Calls prog 39 #[.string ⟨#[99,97,110,99,101,108]⟩,.slice a 1 c] w λe w'=>F4 ⟨4,d,0,0,0,jt⟩ w e w':=by
 obtain⟨b,o,rfl,g,f⟩:=hi 0 dc;have k:w.cell? ⟨b,o,none⟩=some (.int .i64 d):=f;have i:=Nat.lt_succ_of_lt g;clear hi f;go_enter func39,ntmps39;go_wp2_with fail;refine Xzq (v := .tuple #[(Ax.mk 4 d 0 0 0 jt).val,.bool true]) L4 rfl ?_;exact Er
theorem avx(a:Option Addr)(c:Nat)(d f g i:Int)(w:World)(hi:lw w a 4 (λj=>[d,f,g,i].getD j 0)):
  Calls prog 39 #[.string ⟨#[112,105,99,107]⟩,.slice a 4 c] w λe w'=>F4 ⟨5,d,f,g,i,jt⟩ w e w':=by
 obtain⟨b,o,rfl,s,k⟩:=hi 0 dc;have u:w.cell? ⟨b,o,none⟩=some (.int .i64 d):=k;obtain⟨_,_,p,-,l⟩:=hi 1 dc;cases p;have c1:w.cell? ⟨b,o+1,none⟩=some (.int .i64 f):=l;obtain⟨_,_,q,-,m⟩:=hi 2 dc;cases q;have c2:w.cell? ⟨b,o+2,none⟩=some (.int .i64 g):=m;obtain⟨_,_,r,-,n⟩:=hi 3 dc;cases r;have c3:w.cell? ⟨b,o+3,none⟩=some (.int .i64 i):=n;have t:=Nat.lt_succ_of_lt s;clear hi k l m n;go_enter func39,ntmps39;go_wp2_with fail
 go_region
 go_wp2_with fail;refine Xzq (v := .tuple #[(Ax.mk 5 d f g i jt).val,.bool true]) L4 rfl ?_;exact⟨rfl,brf.alloc nlr _ |>.drew⟩
theorem avz(a:Option Addr)(c:Nat)(d f:Int)(w:World)(hi:lw w a 2 (λj=>[d,f].getD j 0)):
  Calls prog 39 #[.string ⟨#[109,111,118,101,100]⟩,.slice a 2 c] w λe w'=>F4 ⟨7,d,0,0,f,jt⟩ w e w':=by
 obtain⟨b,o,rfl,l,g⟩:=hi 0 dc;have n:w.cell? ⟨b,o,none⟩=some (.int .i64 d):=g;obtain⟨_,_,k,-,i⟩:=hi 1 dc;cases k;have c1:w.cell? ⟨b,o+1,none⟩=some (.int .i64 f):=i;have m:=Nat.lt_succ_of_lt l;clear hi g i;go_enter func39,ntmps39;go_wp2_with fail
 go_region
 go_wp2_with fail;refine Xzq (v := .tuple #[(Ax.mk 7 d 0 0 f jt).val,.bool true]) L4 rfl ?_;exact⟨rfl,brf.alloc nlr _ |>.drew⟩
theorem av0(a:Option Addr)(c:Nat)(d f g:Int)(w:World)(hi:lw w a 3 (λj=>[d,f,g].getD j 0)):
  Calls prog 39 #[.string ⟨#[99,111,117,110,116]⟩,.slice a 3 c] w λe w'=>F4 ⟨8,d,f,0,g,jt⟩ w e w':=by
 obtain⟨b,o,rfl,p,i⟩:=hi 0 dc;have r:w.cell? ⟨b,o,none⟩=some (.int .i64 d):=i;obtain⟨_,_,m,-,k⟩:=hi 1 dc;cases m;have c1:w.cell? ⟨b,o+1,none⟩=some (.int .i64 f):=k;obtain⟨_,_,n,-,l⟩:=hi 2 dc;cases n;have c2:w.cell? ⟨b,o+2,none⟩=some (.int .i64 g):=l;have q:=Nat.lt_succ_of_lt p;clear hi i k l;go_enter func39,ntmps39;go_wp2_with fail
 go_region
 go_wp2_with fail;refine Xzq (v := .tuple #[(Ax.mk 8 d f 0 g jt).val,.bool true]) L4 rfl ?_;exact⟨rfl,brf.alloc nlr _ |>.drew⟩
theorem avv(a:Option Addr)(c:Nat)(w:World):
  Calls prog 39 #[.string ⟨#[114,101,108,101,97,115,101]⟩,.slice a 0 c] w λe w'=>F4 ⟨3,0,0,0,0,jt⟩ w e w':=by
 go_enter func39,ntmps39;go_wp2_with fail;refine Xzq (v := .tuple #[(Ax.mk 3 0 0 0 0 jt).val,.bool true]) L4 rfl ?_;exact Er
theorem avy(a:Option Addr)(c:Nat)(w:World):
  Calls prog 39 #[.string ⟨#[102,105,108,108]⟩,.slice a 0 c] w λe w'=>F4 ⟨6,0,0,0,0,jt⟩ w e w':=by
 go_enter func39,ntmps39;go_wp2_with fail;refine Xzq (v := .tuple #[(Ax.mk 6 0 0 0 0 jt).val,.bool true]) L4 rfl ?_;exact Er
structure aei(B:Nat)(l:List Int)(w wk:World)(v:Value)(n:Nat):Prop where
 x:Blk wk B 77 6 (λj=>(#[.int .i64 2,.int .i64 0,.int .i64 0,.int .i64 0,.int .i64 0,v]:Array Value).getD j default)
 o:wk.ownsRow w.heap.size 115 4 v n (ba n (Ah l))
 z:Blk wk w.heap.size 77 6 (λj=>(#[.int .i64 0,.int .i64 0,.int .i64 0,.int .i64 0,.int .i64 0,.slice none 0 0]:Array Value).getD j default)
 b:Bw w wk
theorem avu(a:Option Addr)(c:Nat)(l:List Int)(w:World)(hi:lw w a l.length (λj=>l.getD j 0))(h2:l.length%2=0)(bm:2<=l.length/\l.length<=6):
  Calls prog 39 #[.string ⟨#[101,110,116,101,114]⟩,.slice a l.length c] w λe w'=>∃ls:Hs,e = .returned (.tuple #[(Ax.mk 2 0 0 0 0 ls).val,.bool true])/\ls.n=l.length/2/\ls.z=Ah l/\ct w.heap.size 115 w' ls/\Bw w w':=by
 obtain⟨b,o,rfl,hb,-⟩:=hi 0 ow;have HI:Hid (∀wk,Bw w wk->∀j,j<l.length->wk.cell? ⟨b,o+j,none⟩=some (.int .i64 (l.getD j 0))):=λwk hB j J=>by
  obtain⟨_,_,e,a1,hc⟩:=hi j J;cases e;exact(hB.cell (p:=⟨b,o+j,none⟩) a1).trans hc
 have ah:=hid hb;obtain⟨N,hN⟩:∃N,l.length=2*N:=⟨l.length/2,ow⟩;have HN:=hid hN;have bn:N<=3:=ow;have bo:inB (l.length:Int) 2 6=true:=cy ow;have bs:(l.length:Int)%2=0:=ow;have M:Hid (aei (w.heap.size+1) l w ((w.alloc (.cells #[.int .i64 0,.int .i64 0,.int .i64 0,.int .i64 0,.int .i64 0,.slice none 0 0] 77)).alloc (.cells #[.int .i64 2,.int .i64 0,.int .i64 0,.int .i64 0,.int .i64 0,.slice none 0 0] 77)) (.slice none 0 0) 0):=
  ⟨Blk.mk' (cur:=#[.int .i64 2,.int .i64 0,.int .i64 0,.int .i64 0,.int .i64 0,.slice none 0 0]) vq rfl,World.ownsRow_nil _ _ _ _,(Blk.mk' (cur:=#[.int .i64 0,.int .i64 0,.int .i64 0,.int .i64 0,.int .i64 0,.slice none 0 0]) rfl rfl).alloc _,dx _ _ _⟩
 obtain⟨iL,au,av,aw,ax⟩:=info_parts Ed;clear hi hb hN;go_enter func39,ntmps39;go_wp2_with(go_at_call 34;refine ap (da _ _ _ _) ?_)
 go_loopw [8] (λkv wj=>∃(j:Nat) (a:Option Addr) (c:Nat),2*j<=l.length/\kv = .int .i64 ((2*j:Nat):Int)/\Hid (aei (w.heap.size+1) l w wj (.slice a j c) j)) (λkv _=>l.length-(intOf kv).toNat)
 case atStart=>exact⟨0,none,0,Qxz _,rfl,M⟩
 rename_i y0;obtain⟨j,a,c2,J,rfl,f⟩:=hrel;clear M;have x0:wr.cell? ⟨w.heap.size+1,0,none⟩=some (.int .i64 2):=f.o.x.k 0;have x1:wr.cell? ⟨w.heap.size+1,1,none⟩=some (.int .i64 0):=f.o.x.k 1;have x2:wr.cell? ⟨w.heap.size+1,2,none⟩=some (.int .i64 0):=f.o.x.k 2;have x3:wr.cell? ⟨w.heap.size+1,3,none⟩=some (.int .i64 0):=f.o.x.k 3;have x4:wr.cell? ⟨w.heap.size+1,4,none⟩=some (.int .i64 0):=f.o.x.k 4;have x5:wr.cell? ⟨w.heap.size+1,5,none⟩=some (.slice a j c2):=f.o.x.k 5;have xl:=f.o.x.lt;by_cases U:2*j<l.length;rotate_left
 .have q4:¬((2*j:Nat):Int)<(l.length:Int):=ow;have HJ:Hid (l.length=2*j):=by show _=_;omega
  have g:=f.o.z;have zl:=g.lt;have bv:=g.frozen 0;have bt:wr.cell? ⟨w.heap.size,0,none⟩=some (.int .i64 0):=g.k 0;have bw:=g.frozen 1;have zc1:wr.cell? ⟨w.heap.size,1,none⟩=some (.int .i64 0):=g.k 1;have bx:=g.frozen 2;have zc2:wr.cell? ⟨w.heap.size,2,none⟩=some (.int .i64 0):=g.k 2;have bz:=g.frozen 3;have zc3:wr.cell? ⟨w.heap.size,3,none⟩=some (.int .i64 0):=g.k 3;have b0:=g.frozen 4;have zc4:wr.cell? ⟨w.heap.size,4,none⟩=some (.int .i64 0):=g.k 4;have b1:=g.frozen 5;have zc5:wr.cell? ⟨w.heap.size,5,none⟩=some (.slice none 0 0):=g.k 5;have A:=And.intro (Qb g (.int .i64 2) (.int .i64 0) (.int .i64 0) (.int .i64 0) (.int .i64 0) (.slice a j c2)) (And.intro (Lo f.o.b nlr (.int .i64 2) (.int .i64 0) (.int .i64 0) (.int .i64 0) (.int .i64 0) (.slice a j c2)) (ajm f.o.o g dc (.int .i64 2) (.int .i64 0) (.int .i64 0) (.int .i64 0) (.int .i64 0) (.slice a j c2)));unfold Np at A;have s:Hid (_/\_/\_):=A;clear A g f U J;go_wp2_with fail;have al:=s.o.1.k 0;have am:=s.o.1.k 1;have an:=s.o.1.k 2;have ao:=s.o.1.k 3;have aq:=s.o.1.k 4;have ar:=s.o.1.k 5;obtain⟨ls,hv,ho,hn1,hz⟩:=ct.ofRow s.o.2.2 nlr;refine Xzq (v := .tuple #[.agg #[.int .i64 2,.int .i64 0,.int .i64 0,.int .i64 0,.int .i64 0,.slice a j c2],.bool true]) (by simp[results,results39,go_sem,al,am,an,ao,aq,ar]) rfl ?_;refine⟨ls,?_,ak0,hz,ho,s.o.2.1⟩;simp only[Ax.val,Ax.cells];have a3:Value.slice a j c2 = .slice ls.a ls.n ls.c:=hv;rw[<-a3]
 have t:=HI.o wr f.o.b (2*j) ow;have y:=HI.o wr f.o.b (2*j+1) ow;have HZ:Hid (Ah l j=⟨l.getD (2*j) 0,l.getD (2*j+1) 0,0,0⟩/\2*(j+1)=2*j+2/\2*j+2<=l.length):=⟨rfl,ow,ako⟩;have bp:b<wr.heap.size:=Xzx ah.o f.o.b.size;obtain⟨K,hK⟩:∃K,2*j=K:=⟨_,rfl⟩;rw[hK] at t y HZ ⊢;have q4:(K:Int)<(l.length:Int):=ow;have q5:(K:Int)+1<(l.length:Int):=by have:=HZ.o.2.2;omega
 generalize l.getD K 0=X at *
 generalize l.getD (K+1) 0=T at *
 have aj:=hid hK;have br:K<=6:=ow;clear hK x0 x1 x2 x3 x4 U J;have a7:=Qqq x5;have a5:=Qqq t;have a6:=Qqq y;go_wp2_with fail;refine dg (λw'=>∃p:Regrown,w'=grow (redrawn wr p.d) p.os) [0,1,2,3,4,5,6,7,8,9,10,11] [] [(false,12),(true,13),(true,14),(true,15)] (Qqx (brf.drew)) ?_;simp only[jg]
 repeat(go_big_quiet_step(fail))
 refine Qqz ?_;clear a7 a5 a6 t y x5 xl;refine⟨λ_ _ _ _=>True,Qjq _,Qjq _,Qjq _,λV G wj hS _ _ => ?_⟩;have D:=ae hS;clear hS;obtain⟨W9,hW9,E⟩:∃W,wj.alloc (.cells #[.int .i64 X,.int .i64 T,.int .i64 0,.int .i64 0] 115)=W/\Bw wj W:=⟨_,rfl,brf.alloc nlr _⟩;have Q:Hid (∀j u,(dt ⟨X,T,0,0⟩)[j]?=some u->W9.cell? ((⟨wj.heap.size,0,none⟩:Addr).add j)=some u):=as9;have q:=D.trans (E.mono D.size);have S:=hid hW9;have m:Hid (aei (w.heap.size+1) l w W9 (.slice a j c2) j):=⟨f.o.x.below q,ky f.o.o q,f.o.z.below q,f.o.b.trans (q.mono f.o.b.size)⟩;have B:=hid m.o.b.size;have L:=hid q;have bq:j<=3:=by have:=aj.o;omega
 clear hW9 E q D f;simp only[dz];refine bu 12 rfl ?_;go_wp2_with fail;rw[S.o];refine⟨fw.no (Qqx L.o),?_⟩;refine bu 13 rfl ?_;go_wp2_with(at_builtin;refine wpList_append_own W9 rfl (.tmp 125) (.tmp 136) 75 rfl w.heap.size 115 iL (.agg #[.int .i64 0,.int .i64 0,.int .i64 0,.int .i64 0]) 4 32 underlying75 au av aw ax rfl dc (.slice a j c2) j (ba j (Ah l)) rfl m.o.o ⟨wj.heap.size,0,none⟩ 1 1 (dt ⟨X,T,0,0⟩) rfl rfl Q.o (λu hu=>ast) uo ow B.o ?_);intro v2 w6 r1 r2 _;obtain⟨F,c3,rfl,-⟩:=wn r1;have Y:w6.ownsRow w.heap.size 115 4 (.slice F (j+1) c3) (j+1) (ba (j+1) (Ah l)):=by
  rw[vj,HZ.o.1];exact r1
 have H:=zm m.o.o r2;have r:=H.blk m.o.x dc;have ak:Hid (aei (w.heap.size+1) l w (w6.setCell ⟨w.heap.size+1,5,none⟩ (.slice F (j+1) c3)) (.slice F (j+1) c3) (j+1)):=⟨(r.set 5 _).congr (λi hi=>by match i,hi with|0,_=>rfl|1,_=>rfl|2,_=>rfl|3,_=>rfl|4,_=>rfl|5,_=>rfl),wm Y r dc 5 _,(H.blk m.o.z dc).other (a:=⟨w.heap.size+1,5,none⟩) dy _,(H.below m.o.b nlr B.o).setCell (p:=⟨w.heap.size+1,5,none⟩) dy _⟩;have y5:w6.cell? ⟨w.heap.size+1,5,none⟩=some (.slice a j c2):=r.k 5;have y6:=r.frozen 5;have y7:=r.lt;clear r1 r2 Y H r m Q S B L;refine o6 ⟨fw.yes,?_⟩;refine bu 14 rfl ?_;go_wp2_with fail;refine⟨fw.yes,?_⟩;refine bu 15 rfl ?_;go_wp2_with fail;refine⟨fw.yes,?_⟩;refine NoPanic.normal ?_;go_wp2_with fail;go_roundw
 case rel=>exact⟨j+1,F,c3,akp,by rw[HZ.o.2.1];go_num,ak.o⟩
 case measure=>simp[intOf];omega
def O1:Ax:=⟨0,0,0,0,0,jt⟩
def Dn(w:World)(e:Ending)(w':World):Prop:=e = .returned (.tuple #[O1.val,.bool false])/\Bw w w'
theorem ah1(a:Option Addr)(c:Nat)(l:List Int)(w:World)(h:¬l.length=3):
  Calls prog 39 #[.string ⟨#[114,101,99,101,105,118,101]⟩,.slice a l.length c] w λe w'=>Dn w e w':=auu
theorem ah4(a:Option Addr)(c:Nat)(l:List Int)(w:World)(h:¬l.length=1):
  Calls prog 39 #[.string ⟨#[99,97,110,99,101,108]⟩,.slice a l.length c] w λe w'=>Dn w e w':=by
 have q:((l.length:Int)==1)=false:=Cw;exact L6
theorem ah5(a:Option Addr)(c:Nat)(l:List Int)(w:World)(h:¬l.length=4):
  Calls prog 39 #[.string ⟨#[112,105,99,107]⟩,.slice a l.length c] w λe w'=>Dn w e w':=by
 have q:((l.length:Int)==4)=false:=Cw;exact L6
theorem ah7(a:Option Addr)(c:Nat)(l:List Int)(w:World)(h:¬l.length=2):
  Calls prog 39 #[.string ⟨#[109,111,118,101,100]⟩,.slice a l.length c] w λe w'=>Dn w e w':=by
 have q:((l.length:Int)==2)=false:=Cw;exact L6
theorem ah8(a:Option Addr)(c:Nat)(l:List Int)(w:World)(h:¬l.length=3):
  Calls prog 39 #[.string ⟨#[99,111,117,110,116]⟩,.slice a l.length c] w λe w'=>Dn w e w':=auu
theorem ah3(a:Option Addr)(c:Nat)(l:List Int)(w:World)(h:¬l.length=0):
  Calls prog 39 #[.string ⟨#[114,101,108,101,97,115,101]⟩,.slice a l.length c] w λe w'=>Dn w e w':=auv
theorem ah6(a:Option Addr)(c:Nat)(l:List Int)(w:World)(h:¬l.length=0):
  Calls prog 39 #[.string ⟨#[102,105,108,108]⟩,.slice a l.length c] w λe w'=>Dn w e w':=auv
theorem ah2(a:Option Addr)(c:Nat)(l:List Int)(w:World)(h:¬(l.length%2=0/\2<=l.length/\l.length<=6)):
  Calls prog 39 #[.string ⟨#[101,110,116,101,114]⟩,.slice a l.length c] w λe w'=>Dn w e w':=by
 by_cases b:l.length%2=0
 .have d:((l.length:Int)%2==0)=true:=oq;have g:inB (l.length:Int) 2 6=false:=Rg (λf=>h ⟨b,ow⟩);go_enter func39,ntmps39;go_wp2_with(go_at_call 34;refine ap (da _ _ _ _) ?_);refine Xzq (v := .tuple #[O1.val,.bool false]) asn rfl ?_;exact⟨rfl,brf.alloc nlr _⟩
 have d:((l.length:Int)%2==0)=false:=oq;exact L6
theorem Uz(t:List UInt8)(a:Option Addr)(c:Nat)(l:List Int)(w:World)(h1:¬t=[114,101,99,101,105,118,101])(h2:¬t=[101,110,116,101,114])(b:¬t=[114,101,108,101,97,115,101])(d:¬t=[99,97,110,99,101,108])(f:¬t=[112,105,99,107])(g:¬t=[102,105,108,108])(i:¬t=[109,111,118,101,100])(h8:¬t=[99,111,117,110,116]):
  Calls prog 39 #[.string ⟨t.toArray⟩,.slice a l.length c] w λe w'=>Dn w e w':=by
 have j:(t==[114,101,99,101,105,118,101])=false:=xp;have k:(t==[101,110,116,101,114])=false:=Bb;have m:(t==[114,101,108,101,97,115,101])=false:=by simpa using b
 have n:(t==[99,97,110,99,101,108])=false:=by simpa using d
 have o:(t==[112,105,99,107])=false:=by simpa using f
 have p:(t==[102,105,108,108])=false:=by simpa using g
 have q:(t==[109,111,118,101,100])=false:=by simpa using i
 have r:(t==[99,111,117,110,116])=false:=by simpa using h8
 exact L6
theorem Qv(k l p:Nat)(s:St)(order line:Int)(w:World)(hs:s.os.At w)(M:k<w.heap.size)(Q:l<w.heap.size)(S:p<w.heap.size)(c1:w.cell? ⟨k,1,none⟩=some (.slice s.os.a s.os.n s.os.c))(c2:w.cell? ⟨l,0,none⟩=some (.int .i64 order))(c3:w.cell? ⟨p,0,none⟩=some (.int .i64 line)):
  Calls prog 221 #[.pointer (some ⟨k,0,none⟩),.pointer (some ⟨l,0,none⟩),.pointer (some ⟨p,0,none⟩)] w λe w'=>e = .returned (.bool (Aj s order line))/\Bw w w':=by
 have v:=hs.le;have f:=hs.cap;have t:=f;unfold maxLen at t;have J:s.os.n<=maxLen:=Qzx v f;have F:=Qqq c1;have W:=Qqq c2;have X:=Qqq c3;clear c1 c2 c3;cases k1:inB order 0 ((s.os.n:Int)-1)
 .have q:Hid (Aj s order line=true):=by show Aj s order line=true;unfold Aj;rw[k1];rfl
  clear hs;go_enter func221,ntmps221;go_wp2_with fail;refine Qxq ko ko ?_
  repeat(go_big_quiet_step((go_at_call 98;exact Xxz ((im _ _ _ Cz).mono (λ_ _ h=>⟨h.1,h.2▸Below.refl _ _⟩)))))
  refine Qqz ?_;intro _ g;obtain⟨⟨B,x⟩,d⟩:=g;subst d;go_wp2_with fail;go_ret;exact⟨by rw[q.o];rfl,Qxx _ _ _⟩
 obtain⟨m,rfl⟩:=Qzz (ar k1).1;have D:m<s.os.n:=R9;obtain⟨b,o,j,T,G,y,r⟩:=hs.ods m D;have q:Hid (Aj s (m:Int) line = !(inB line 0 (((s.os.z m).ls.n:Int)-1))):=by show Aj s (m:Int) line=_;unfold Aj;rw[k1];rfl
 have i:=r.cap;have u:=r.le;have H:(s.os.z m).ls.n<=maxLen:=Qzx u i;have Y:=Qqq y;have U:(0:Int)<=(m:Int):=ow;have V:(m:Int)<(s.os.n:Int):=ow;rw[j] at F;unfold maxLen at i;clear G y r hs j
 generalize (s.os.z m).ls.n=A at *
 generalize (s.os.z m).ls.c=L at *
 generalize (s.os.z m).ls.a=K at *
 cases E:inB line 0 ((A:Int)-1)
 all_goals
  go_enter func221,ntmps221;go_wp2_with fail;refine Qxq ko ko ?_
  repeat(go_big_quiet_step((go_at_call 98;exact Xxz ((im _ _ _ Cz).mono (λ_ _ h=>⟨h.1,h.2▸Below.refl _ _⟩)))))
  refine Qqz ?_;intro _ g;obtain⟨⟨B,x⟩,d⟩:=g;subst d;go_wp2_with fail;go_ret;exact⟨by rw[q.o,E];simp,Qxx _ _ _⟩
theorem Ty(p:Pl)(s:St)(order line n but:Int)(w:World)(hp:p.At w)(hs:s.At w):
  Calls prog 179 #[p.val,s.val,.int .i64 order,.int .i64 line,.int .i64 n,.int .i64 but] w λe w'=>e = .returned (.int .i64 (ii p s order line n but))/\Bw w w':=by
 obtain⟨W0,hW,B,X0,K2,K3⟩:∃W,((((w.alloc (.cells #[.slice p.ab p.nb p.cb,.slice p.sa p.ns p.cs] 25)).alloc (.cells s.cells 36)).alloc (.cells #[.int .i64 order] 3)).alloc (.cells #[.int .i64 line] 3))=W/\Bw w W/\jj W w.heap.size (w.heap.size+1) p s/\Blk W (w.heap.size+2) 3 1 (λ_ => .int .i64 order)/\Blk W (w.heap.size+3) 3 1 (λ_ => .int .i64 line):=
  ⟨_,rfl,((dx _ _ _).alloc oq _).alloc oq _,((ku w p s _ _).below (brf.alloc nlr _)).below (brf.alloc nlr _),((Blk.mk' (cur:=#[.int .i64 order]) vq rfl).congr (λj hj=>by match j,hj with|0,_=>rfl)).alloc _,(Blk.mk' (cur:=#[.int .i64 line]) vq rfl).congr (λj hj=>by match j,hj with|0,_=>rfl)⟩
 have HC:Hid (∀u,Bw W0 u->jj u w.heap.size (w.heap.size+1) p s/\p.At u/\s.At u/\Bw w u/\Blk u (w.heap.size+2) 3 1 (λ_ => .int .i64 order)/\Blk u (w.heap.size+3) 3 1 (λ_ => .int .i64 line)):=λu h=>⟨X0.below h,(hp.below B).below h,(hs.below B).below h,B.trans (h.mono B.size),K2.below h,K3.below h⟩;unfold St.cells at hW;have HW:=hid hW;have leb:=hp.leb;have A:=hp.capb;have capb:=A;unfold maxLen at capb;have E:p.nb<=maxLen:=Qzx leb A;clear hW X0 K2 K3 hp hs;unfold Pl.val St.val;go_enter func179,ntmps179;go_wp2_with fail;rw[HW.o];obtain⟨X,i,f,m,-,-⟩:=HC.o W0 brf;refine(l8 p s W0 i f).mono ?_;rintro e w1 ⟨rfl,Y⟩;clear X i f m HW;obtain⟨⟨⟨l1,d0,d1⟩,l2,v,c1,c2,c3,c4,c5,c6⟩,i,f,m,q,r⟩:=HC.o w1 Y;have g:=hid m;clear m;by_cases T:ag p s=0;rotate_left
 .have HX:Hid (ii p s order line n but=ag p s):=Mn T;clear i f q r v c1 c2 c3 c4 c5 c6;exact apf
 have F:=hid T;have HF:Hid (cu p s):=(et T).fm;rw[T];clear T;have ae:Hid (Calls prog 221 #[.pointer (some ⟨w.heap.size+1,0,none⟩),.pointer (some ⟨w.heap.size+1+1,0,none⟩),.pointer (some ⟨w.heap.size+1+1+1,0,none⟩)] w1 λe w'=>e = .returned (.bool (Aj s order line))/\Bw w1 w'):=Qv (w.heap.size+1) (w.heap.size+2) (w.heap.size+3) s order line w1 f.os l2 q.lt r.lt c1 (q.k 0) (r.k 0);have eg:=enters_of func221 ko rfl;clear i f q r v c1 c2 c3 c4 c5 c6 d1;go_wp2_with fail;refine ae.o.mono ?_;rintro e w2 ⟨rfl,af⟩;have a0:=Y.trans (af.mono Y.size);clear l1 d0 l2 af ae g Y eg;obtain⟨⟨⟨l1,d0,d1⟩,l2,v,c1,c2,c3,c4,c5,c6⟩,i,f,m,q,r⟩:=HC.o w2 a0;have g:=hid m;clear m;have G:Hid (∀a b c d,Aj s order line=a->inB n 0 200=b->(but !=-1)=c->inB but 0 ((p.nb:Int)-1)=d->tr p s order line n but=(a || !b||(c && !d))):=λa b c d e1 e2 e3 e4=>by unfold tr;rw[e1,e2,e3,e4]
 cases t:Aj s order line;rotate_left
 .have HX:Hid (ii p s order line n but=3):=Cf F.o (by rw[G.o _ _ _ _ t rfl rfl rfl];rfl);clear i f q r v c1 c2 c3 c4 c5 c6 t;exact apf
 have ai:=t;cases m2:inB n 0 200
 .have HX:Hid (ii p s order line n but=3):=Cf F.o (by rw[G.o _ _ _ _ t m2 rfl rfl];rfl);clear i f q r v c1 c2 c3 c4 c5 c6 t ai;go_wp2_with(go_at_call 43;refine ap (dm _ _ _ _) ?_);go_ret;exact⟨ja,g.o⟩
 cases m3:(but !=-1)
 .have H:Hid (tr p s order line n but=false):=by show tr p s order line n but=false;rw[G.o _ _ _ _ t m2 m3 rfl];rfl
  have br:=m3;exact ax3
 cases m4:inB but 0 ((p.nb:Int)-1)
 .have HX:Hid (ii p s order line n but=3):=Cf F.o (by rw[G.o _ _ _ _ t m2 m3 m4];rfl);clear i f q r v c1 c2 c3 c4 c5 c6 t ai;exact axv
 have H:Hid (tr p s order line n but=false):=by show tr p s order line n but=false;rw[G.o _ _ _ _ t m2 m3 m4];rfl
 exact ax3
attribute [local go_sem] Oper.semAt_some
theorem afg(p:Pl)(f:Bool){k m:Nat}(h:k<=m):frL p f k <+: frL p f m:=by
 induction m with
 | zero=>rw[show k=0 by omega];exact List.prefix_refl _
 | succ m ih =>
  by_cases b:k=m+1
  .rw[b];exact List.prefix_refl _
  refine(ih ow).trans ?_;by_cases a:(p.zb m).front=f
  .rw[yj a];exact List.prefix_append _ _
  rw[Br a];exact List.prefix_refl _
def Cm(n₀ Bf:Nat)(A B:World):Prop:=Below n₀ A B/\(∀v,A.cell? ⟨Bf,0,none⟩=some v->B.cell? ⟨Bf,0,none⟩=some v)
theorem ae3(F:Fence)(n:Nat)(D:F.fn 190)(z:F.round=none)(U:1<=n)(l s Bf c:Nat)(p:Pl)(f:Bool)(J t:List Int->World->Prop)
  (H:∀pre x W,J pre W->pre.length<p.nb->YieldAt F (n-1) prog l #[.int .i64 x] W λe a =>
   (e = .returned (.bool true)/\J (pre++[x]) a/\Cm c Bf W a)\/(e = .returned (.bool false)/\t (pre++[x]) a))
  (W:World) (E:AbidesFrom W.heap.size J) (hn₀:c<=W.heap.size) (L:W.cell? ⟨s,0,none⟩=some (.slice p.ab p.nb p.cb)) (w:W.cell? ⟨Bf,0,none⟩=some (.bool f)) (Q:p.nb<=p.cb) (q:p.cb<=maxLen)
  (G:∀a,Below c W a->vg a p.ab p.nb p.zb) (B:J [] W) :
  CallsIn F n prog 190 #[.func (.yield l) #[] #[],.pointer (some ⟨s,0,none⟩),.pointer (some ⟨Bf,0,none⟩)] W λe a=>(∃v,e = .returned v) /\
   ((∃ys,ys=frL p f p.nb/\J ys a)\/(∃pre,pre <+: frL p f p.nb/\t pre a)):=by
 unfold maxLen at q;have hS:Hid (∀wr,Below c W wr->W.heap.size<=wr.heap.size):=λwr h=>h.size;have j:Hid (∀pre A o,J pre A->J pre (A.alloc o)):=λpre A o h=>E pre A (A.alloc o) none h (World.grownBy_alloc A o none) (λr e=>En);refine callsIn_of_wp func190 rfl D ?_ z;simp only[ntmps190,List.size_toArray,List.length_cons,List.length_nil,Nat.reduceAdd,Nat.reduceSub,Array.replicate_succ,Array.replicate_zero,List.push_toArray,List.append_toArray,Xqx,Xqz]
 gi_wp2
 gi_loopw [9] (λi wr=>∃k:Nat,k<=p.nb/\i = .int .i64 k/\J (frL p f k) wr/\Below c W wr/\wr.cell? ⟨Bf,0,none⟩=some (.bool f)) (λi _=>p.nb-(intOf i).toNat)
 case atStart=>exact⟨0,Qxz _,rfl,B,Below.refl _ _,w⟩
 obtain⟨k,T,rfl,hJs,hB,hcf⟩:=hrel;by_cases y:k<p.nb;rotate_left
 .exact anv
 obtain⟨b,o,m,S,K,Y,z2,z3⟩:=G _ hB k y;have X:(0:Int)<=(k:Int):=ow;have hltf:Bf<wr.heap.size:=World.block_lt_of_cell? wr _ hcf;have M:=Oq p f k;rw[m];clear m;by_cases g:(p.zb k).front=f
 .rw[g] at K;have hJa:=j.o _ wr (.cells #[.bool f,.int .i64 (p.zb k).room,.int .i64 (p.zb k).low,.int .i64 (p.zb k).high] 82) hJs;obtain⟨fn,tmps,assign,body,V,hR⟩:=H (frL p f k) k _ hJa ow
  gi_wp2
  refine hR.mono ?_;rintro e u (⟨rfl,hJ3,hk3⟩|⟨rfl,d⟩)
  .have hB3:Below c W u:=(hB.alloc (Qzx hn₀ (hS.o wr hB)) _).trans hk3.1;have hc3:u.cell? ⟨Bf,0,none⟩=some (.bool f):=hk3.2 _ ((((Below.refl wr.heap.size wr).alloc nlr _).cell (p:=⟨Bf,0,none⟩) hltf).trans hcf);rw[<-yj g] at hJ3;exact am0
  rw[<-yj g] at d
  gi_wp2
  refine Xzq (results_none rfl _ _ _) rfl ?_;exact⟨⟨_,rfl⟩,.inr ⟨frL p f (k+1),afg p f ow,d⟩⟩
 have hJa:=j.o _ wr (.cells #[.bool (p.zb k).front,.int .i64 (p.zb k).room,.int .i64 (p.zb k).low,.int .i64 (p.zb k).high] 82) hJs;rw[<-Br g] at hJa;exact at7
attribute [local go_sem] Oper.semAt_some
theorem Km{a:Nat}{A B C:World}(h:Cm b a A B)(k:Cm b a B C):Cm b a A C:=⟨h.1.trans k.1,λv c=>k.2 v (h.2 v c)⟩
theorem Kl{f a:Nat}(i:f<=w.heap.size)(g:a<w.heap.size)(W:World)(l:Nat)(o b:Obj)(e:w.heap.size<=l)(h:W.heap[l]?=some o)(c:o.isCells=false)(d:o.isWalk=false):Cm f a W (W.putObj l b):=
 ⟨belowK_b i W l o b e h c d,λv j=>((belowK_b nlr W l o b e h c d).cell (p:=⟨a,0,none⟩) g).trans j⟩
theorem Hu(F:Fence)(n:Nat)(b:F.fn 140)(a:F.round=none)(p:Pl)(f:Bool)(w:World):
  CallsIn F n prog 140 #[p.val,.bool f] w λe w'=>e = .returned (.func (.func 190) #[] #[.pointer (some ⟨w.heap.size,0,none⟩),.pointer (some ⟨w.heap.size+1,0,none⟩)])/\w'=(w.alloc (.cells #[.slice p.ab p.nb p.cb,.slice p.sa p.ns p.cs] 25)).alloc (.cells #[.bool f] 4):=by
 unfold Pl.val;refine callsIn_of_wp func140 rfl b ?_ a;simp only[ntmps140,List.size_toArray,List.length_cons,List.length_nil,Nat.reduceAdd,Nat.reduceSub,Array.replicate_succ,Array.replicate_zero,List.push_toArray,List.append_toArray,Xqx,Xqz]
 gi_wp2
 go_ret;exact⟨rfl,rfl⟩
theorem Ms(F:Fence)(n:Nat)(u:F.fn 190)(r:F.round=none)(A:1<=n)(b a e:Nat)(p:Pl)(f:Bool)(w:World)(k:b<w.heap.size)(j:a<w.heap.size)(g:e<=w.heap.size)
  (o:w.cell? ⟨b,0,none⟩=some (.slice p.ab p.nb p.cb)) (m:w.cell? ⟨a,0,none⟩=some (.bool f)) (q:p.nb<=p.cb) (i:p.cb<=maxLen) (y:∀c,Below e w c->vg c p.ab p.nb p.zb) :
  SeqStopsK F n prog 190 #[.pointer (some ⟨b,0,none⟩),.pointer (some ⟨a,0,none⟩)] (λx:Int=>#[Value.int .i64 x]) (Cm e a) (λB=>B=frL p f p.nb) (λpre=>pre <+: frL p f p.nb) p.nb w:=λl J s W d v _ z t =>
 ae3 F n u r A l b a e p f J s z W v (Qzx g d.size) ((d.cell (p:=⟨b,0,none⟩) k).trans o) ((d.cell (p:=⟨a,0,none⟩) j).trans m) q i (λc h=>y c ((d.mono g).trans h)) t
attribute [local go_sem] Oper.semAt_some
theorem aes(p:Pl)(w:World)(hp:p.At w):
  Calls prog 180 #[p.val] w λe w'=>∃v,e = .returned (.tuple #[v,.int .i64 (iu p)])/\w'.ownsRow w.heap.size 3 1 v (ahg p).length ((ahg p).map (Value.int .i64))/\Bw w w':=by
 have leb:=hp.leb;have S:=hp.capb;have F:Bw w (w.alloc (.cells #[.slice p.ab p.nb p.cb,.slice p.sa p.ns p.cs] 25)):=(Below.refl w.heap.size w).alloc nlr _;obtain⟨i1,hj,ah,ai,aj⟩:=info_parts Ad;refine(callsIn_wide (n:=5)).1 ?_;refine callsIn_of_wp_marks func180 rfl trivial ?_ rfl;simp only[Pl.val,ntmps180,List.size_toArray,List.length_cons,List.length_nil,Nat.reduceAdd,Nat.reduceSub,Array.replicate_succ,Array.replicate_zero,List.push_toArray,List.append_toArray,Xqx,Xqz];by_cases h0:iu p=0;rotate_left
 .gi_wp2_with(refine⟨trivial,?_⟩;gi_at_call 18;refine(callsIn_wide.2 (Bj p _ (hp.below F))).mono ?_;rintro e w1 ⟨rfl,Y⟩)
  rw[aww h0];exact⟨_,results_tmp2 rfl _ _ _,_,rfl,World.ownsRow_nil _ _ _ _,F.trans (Y.mono vq)⟩
 have HC:Calls prog 18 #[p.val] (w.alloc (.cells #[.slice p.ab p.nb p.cb,.slice p.sa p.ns p.cs] 25)) λe w'=>e = .returned (.int .i64 0)/\Below (w.heap.size+1) (w.alloc (.cells #[.slice p.ab p.nb p.cb,.slice p.sa p.ns p.cs] 25)) w':=by
  have:=Bj p _ (hp.below F);rw[h0] at this;exact this.mono λe w' h=>⟨h.1,by have k:Below _ _ w':=h.2;rwa[World.size_alloc] at k⟩
 have R:=Nm h0;have bm:=R.nb6;have H0:=hid h0;clear h0 R
 gi_wp2_with(first
  | (refine⟨trivial,?_⟩;gi_at_call 18;refine(callsIn_wide.2 HC).mono ?_;rintro e w1 ⟨rfl,Y⟩;have a9:=Y.size;have c0:w1.cell? ⟨w.heap.size,0,none⟩=some (.slice p.ab p.nb p.cb):=(Y.cell (p:=⟨w.heap.size,0,none⟩) vq).trans vq;rw[World.size_alloc] at a9)
  | (gi_at_make;refine wpListIn_make_own _ rfl _ _ 23 rfl (w.heap.size+1) 3 i1 (.int .i64 0) 1 underlying23 hj ah ai .i64 .i64 _ p.nb rfl rfl rfl (by rw[aj];omega) uo ow ?_;intro a U J;have T:Below (w.heap.size+1) (w.alloc (.cells #[.slice p.ab p.nb p.cb,.slice p.sa p.ns p.cs] 25)) a:=Y.grown J ow Ba;have z:=T.size;rw[World.size_alloc] at z;have c0:a.cell? ⟨w.heap.size,0,none⟩=some (.slice p.ab p.nb p.cb):=(T.cell (p:=⟨w.heap.size,0,none⟩) vq).trans vq;have c1:a.cell? ⟨w.heap.size,1,none⟩=some (.slice p.sa p.ns p.cs):=(T.cell (p:=⟨w.heap.size,1,none⟩) vq).trans vq;have be:w.heap.size<a.heap.size:=by omega)
  | (refine⟨trivial,?_⟩;gi_at_call 140;refine(Hu Fence.wide _ trivial rfl p true _).mono ?_;rintro e w' ⟨rfl,rfl⟩))
 obtain⟨t,aq,s3,bO,al,bF,cP,ad⟩:∃t,((a.alloc (.cells #[(.slice (some ⟨w1.heap.size,0,none⟩) 0 p.nb)] 23)).alloc (.cells #[.slice p.ab p.nb p.cb,.slice p.sa p.ns p.cs] 25)).alloc (.cells #[.bool true] 4)=t/\t.heap.size=a.heap.size+3/\_root_.Go.Boxed t a.heap.size 23 (.slice (some ⟨w1.heap.size,0,none⟩) 0 p.nb)/\t.ownsRow (w.heap.size+1) 3 1 (.slice (some ⟨w1.heap.size,0,none⟩) 0 p.nb) 0 []/\_root_.Go.Boxed t (a.heap.size+1+1) 4 (.bool true)/\t.cell? ⟨a.heap.size+1,0,none⟩=some (.slice p.ab p.nb p.cb)/\Below (w.heap.size+1) (w.alloc (.cells #[.slice p.ab p.nb p.cb,.slice p.sa p.ns p.cs] 25)) t:=by
  refine⟨_,rfl,vq,((_root_.Go.Boxed.new a 23 _).alloc _).alloc _,((U.alloc _).alloc _).alloc _,?_,?_,((T.alloc z _).alloc oq _).alloc oq _⟩
  .have:=_root_.Go.Boxed.new ((a.alloc (.cells #[(.slice (some ⟨w1.heap.size,0,none⟩) 0 p.nb)] 23)).alloc (.cells #[.slice p.ab p.nb p.cb,.slice p.sa p.ns p.cs] 25)) 4 (.bool true)
   rwa[World.size_alloc,World.size_alloc] at this
  have:=((Blk.new (a.alloc (.cells #[(.slice (some ⟨w1.heap.size,0,none⟩) 0 p.nb)] 23)) #[.slice p.ab p.nb p.cb,.slice p.sa p.ns p.cs] 25).alloc (.cells #[.bool true] 4)).cell (j:=0) vq
  rwa[World.size_alloc] at this
 have HP:Hid (∀E,Below (w.heap.size+1) (w.alloc (.cells #[.slice p.ab p.nb p.cb,.slice p.sa p.ns p.cs] 25)) E->vg E p.ab p.nb p.zb):=λE h=>(hp.bins.below F).below (show Below _ _ E by rw[World.size_alloc];exact h);rw[aq];clear Y c0 c1 U J aq;refine wpIn_rangeFunc_ownG rfl dc (gf:=190) (lb:=#[.pointer (some ⟨a.heap.size+1,0,none⟩),.pointer (some ⟨a.heap.size+1+1,0,none⟩)]) rfl trivial (enters_of func190 ko rfl)
  (Ms Fence.wide _ trivial rfl dc (a.heap.size+1) (a.heap.size+1+1) (w.heap.size+1) p true t ow ow ow cP bF.cell leb S (λE h=>HP.o E (ad.trans h))) Km (Kl ow ow) brf (λ_=>rfl)
  (λpre W=>(∃v,_root_.Go.Boxed W a.heap.size 23 v/\W.ownsRow (w.heap.size+1) 3 1 v pre.length (pre.map (Value.int .i64))/\True)/\_root_.Go.Boxed W (a.heap.size+1+1) 4 (.bool true)/\Below (w.heap.size+1) (w.alloc (.cells #[.slice p.ab p.nb p.cb,.slice p.sa p.ns p.cs] 25)) W)
  (λ_ _ _=>False)
  (OwnFrom.and (Own.from (holdsRow_own (w.heap.size+1) a.heap.size 23 3 1 (λpre:List Int=>pre.length) (λpre=>pre.map (Value.int .i64)) (λ_ _=>True)) _) (OwnFrom.and (Own.from (boxed_own _ _ _) _) (ownFrom_below vq ow)))
  (λ_ _ _ _ _ hs _ _=>hs)
  ⟨⟨_,bO,al,trivial⟩,bF,ad⟩
  (λx=>{ tmps:=#[.agg #[.slice p.ab p.nb p.cb,.slice p.sa p.ns p.cs],.pointer (some ⟨w.heap.size,0,none⟩),.slice none 0 0,.int .i64 0,.int .i64 0,.pointer (some ⟨a.heap.size,0,none⟩),.int .i64 x,undef,.agg #[.slice p.ab p.nb p.cb,.slice p.sa p.ns p.cs],.int .i64 0,.int .i64 0,.bool false,undef,.pointer (some ⟨w.heap.size,0,none⟩),.slice p.ab p.nb p.cb,.int .i64 p.nb,(.slice (some ⟨w1.heap.size,0,none⟩) 0 p.nb),.agg #[.slice p.ab p.nb p.cb,.slice p.sa p.ns p.cs],.func (.func 190) #[] #[.pointer (some ⟨a.heap.size+1,0,none⟩),.pointer (some ⟨a.heap.size+1+1,0,none⟩)],.int .i64 x,undef,undef,undef,undef,undef,undef,undef,undef,undef,undef,undef,undef],defers:=[] }) ?assign ?body ?done ?stop
 case assign =>
  intro l x W K H
  gi_wp2
  exact H
 case body =>
  rintro l pre x W ⟨⟨v,r,b,-⟩,q,d⟩ a7;have hc:=r.cell
  gi_wp2_with(gi_at_builtin;refine wpListIn_append_own _ rfl _ _ 23 rfl (w.heap.size+1) 3 i1 (.int .i64 0) 1 8 underlying23 hj ah ai aj rfl dc _ _ _ rfl (b.alloc _) ⟨W.heap.size,0,none⟩ 1 1 [.int .i64 x] rfl rfl (cell_one_new _ _ _) (by simp[Value.oneCell']) uo ow atq ?_;intro v' w5 i g _;obtain⟨g',aw,rfl⟩:=ownsRow_succ i;obtain⟨M,V,y,L,m⟩:=r.appended dc b akj z i g;have a5:=M.cell;have a6:=M.frozen;have G:=(q.alloc _).kept g (q.not_row dc b))
  refine⟨L.from _,⟨m,λu hu => ?_⟩,⟨_,V,by simpa using y,trivial⟩,G.other ow _,d.trans m⟩;rw[q.cell] at hu;cases hu;exact(G.other ow _).cell
 case done =>
  rintro D ys f hD rfl ⟨⟨v,r,b,-⟩,-,d⟩ H;have c0:f.cell? ⟨w.heap.size,0,none⟩=some (.slice p.ab p.nb p.cb):=(d.cell (p:=⟨w.heap.size,0,none⟩) vq).trans vq;have c1:f.cell? ⟨w.heap.size,1,none⟩=some (.slice p.sa p.ns p.cs):=(d.cell (p:=⟨w.heap.size,1,none⟩) vq).trans vq;have bg:w.heap.size<f.heap.size:=by have:=d.size;simp at this;omega
  gi_wp2_with(refine⟨trivial,?_⟩;gi_at_call 140;refine(Hu Fence.wide _ trivial rfl p false _).mono ?_;rintro e w' ⟨rfl,rfl⟩)
  have bn:=r.lt;obtain⟨o,ar,s5,bO,am,bF,cP,an,a2⟩:∃o,(f.alloc (.cells #[.slice p.ab p.nb p.cb,.slice p.sa p.ns p.cs] 25)).alloc (.cells #[.bool false] 4)=o/\o.heap.size=f.heap.size+2/\_root_.Go.Boxed o a.heap.size 23 v/\o.ownsRow (w.heap.size+1) 3 1 v (frL p true p.nb).length ((frL p true p.nb).map (Value.int .i64))/\_root_.Go.Boxed o (f.heap.size+1) 4 (.bool false)/\o.cell? ⟨f.heap.size,0,none⟩=some (.slice p.ab p.nb p.cb)/\Below (w.heap.size+1) (w.alloc (.cells #[.slice p.ab p.nb p.cb,.slice p.sa p.ns p.cs] 25)) o/\o.heap[D]?=some (.deferred (some [])):=by
   refine⟨_,rfl,vq,(r.alloc _).alloc _,(b.alloc _).alloc _,?_,?_,(d.alloc ow _).alloc oq _,?_⟩
   .have:=_root_.Go.Boxed.new (f.alloc (.cells #[.slice p.ab p.nb p.cb,.slice p.sa p.ns p.cs] 25)) 4 (.bool false)
    rwa[World.size_alloc] at this
   .exact((Blk.new f #[.slice p.ab p.nb p.cb,.slice p.sa p.ns p.cs] 25).alloc (.cells #[.bool false] 4)).cell (j:=0) vq
   have ao:=(Qkq H).1;exact((((Below.refl f.heap.size f).alloc nlr _).alloc vq _).block D ao).trans H
  have ao:=(Qkq H).1;have bk:=T9 p p.nb;rw[ar];clear r b d H c0 c1 ar ad;refine wpIn_rangeFunc_ownG rfl dc (gf:=190) (lb:=#[.pointer (some ⟨f.heap.size,0,none⟩),.pointer (some ⟨f.heap.size+1,0,none⟩)]) rfl trivial (enters_of func190 ko rfl)
   (Ms Fence.wide _ trivial rfl dc f.heap.size (f.heap.size+1) (w.heap.size+1) p false o ow ow ow cP bF.cell leb S (λE h=>HP.o E (an.trans h))) Km (Kl ow ow) brf (λ_=>rfl)
   (λpre W=>(∃v,_root_.Go.Boxed W a.heap.size 23 v/\W.ownsRow (w.heap.size+1) 3 1 v (frL p true p.nb++pre).length ((frL p true p.nb++pre).map (Value.int .i64))/\True)/\_root_.Go.Boxed W (f.heap.size+1) 4 (.bool false)/\Below (w.heap.size+1) (w.alloc (.cells #[.slice p.ab p.nb p.cb,.slice p.sa p.ns p.cs] 25)) W/\W.heap[D]?=some (.deferred (some [])))
   (λ_ _ _=>False)
   (OwnFrom.and (Own.from (holdsRow_own (w.heap.size+1) a.heap.size 23 3 1 (λpre:List Int=>(frL p true p.nb++pre).length) (λpre=>(frL p true p.nb++pre).map (Value.int .i64)) (λ_ _=>True)) _) (OwnFrom.and (Own.from (boxed_own _ _ _) _) (OwnFrom.and (ownFrom_below vq ow) (λs A B row hs hg hr=>(hg.block D (Qkq hs).1 (λe=>by have:=(hr D e.symm).1;omega)).trans hs))))
   (λ_ _ _ _ _ hs _ _=>hs)
   ⟨⟨_,bO,by simpa using am,trivial⟩,bF,an,a2⟩
   (λx=>{ tmps:=#[.agg #[.slice p.ab p.nb p.cb,.slice p.sa p.ns p.cs],.pointer (some ⟨w.heap.size,0,none⟩),.slice none 0 0,.int .i64 0,.int .i64 0,.pointer (some ⟨a.heap.size,0,none⟩),undef,.int .i64 x,.agg #[.slice p.ab p.nb p.cb,.slice p.sa p.ns p.cs],.int .i64 0,.int .i64 0,.bool false,undef,.pointer (some ⟨w.heap.size,0,none⟩),.slice p.ab p.nb p.cb,.int .i64 p.nb,(.slice (some ⟨w1.heap.size,0,none⟩) 0 p.nb),.agg #[.slice p.ab p.nb p.cb,.slice p.sa p.ns p.cs],.func (.func 190) #[] #[.pointer (some ⟨a.heap.size+1,0,none⟩),.pointer (some ⟨a.heap.size+1+1,0,none⟩)],undef,undef,undef,undef,undef,.agg #[.slice p.ab p.nb p.cb,.slice p.sa p.ns p.cs],.func (.func 190) #[] #[.pointer (some ⟨f.heap.size,0,none⟩),.pointer (some ⟨f.heap.size+1,0,none⟩)],.int .i64 x,undef,undef,undef,undef,undef],defers:=[] }) ?assign2 ?body2 ?done2 ?stop2
  case assign2 =>
   intro l x W K H
   gi_wp2
   exact H
  case body2 =>
   rintro l pre x W ⟨⟨v,r,b,-⟩,q,d,a3⟩ a7;have hc:=r.cell;have bl:(frL p true p.nb++pre).length<=2*p.nb:=by rw[List.length_append];omega
   gi_wp2_with(gi_at_builtin;refine wpListIn_append_own _ rfl _ _ 23 rfl (w.heap.size+1) 3 i1 (.int .i64 0) 1 8 underlying23 hj ah ai aj rfl dc _ _ _ rfl (b.alloc _) ⟨W.heap.size,0,none⟩ 1 1 [.int .i64 x] rfl rfl (cell_one_new _ _ _) (by simp[Value.oneCell']) uo ow atq ?_;intro v' w5 i g _;obtain⟨g',aw,rfl⟩:=ownsRow_succ i;obtain⟨M,V,y,L,m⟩:=r.appended dc b akj z i g;have a5:=M.cell;have a6:=M.frozen;have G:=(q.alloc _).kept g (q.not_row dc b))
   simp only[List.length_append] at V y L m;refine⟨L.from _,⟨m,λu hu => ?_⟩,⟨_,V,by simpa[Nat.add_assoc] using y,trivial⟩,G.other ow _,d.trans m,L.same D _ a3 rfl⟩;rw[q.cell] at hu;cases hu;exact(G.other ow _).cell
  case done2 =>
   rintro X ys W a1 rfl ⟨⟨v,r,b,-⟩,-,d,ap⟩ ae;have hc:=r.cell
   gi_wp2
   refine⟨vq,.inl ⟨_,_,rfl,run_takeDeferred ae,?_⟩⟩;have a8:D≠X:=ow;have Q:(W.putObj X (.deferred none)).heap[D]?=some (.deferred (some [])):=((grownBy_putObj' W X (.deferred none)).block D (Qkq ap).1 (λe=>a8 (by cases e;rfl))).trans ap;refine⟨vq,.inl ⟨_,_,rfl,run_takeDeferred Q,?_⟩⟩;have y:=ownsRow_putObj (ownsRow_putObj b (.deferred none) ae rfl) (.deferred none) Q rfl;have a4:Below (w.heap.size+1) (w.alloc (.cells #[.slice p.ab p.nb p.cb,.slice p.sa p.ns p.cs] 25)) (W.putObj X (.deferred none)):=d.trans (belowK_b (w:=o) ow W X _ _ a1 ae rfl rfl);have m:=a4.trans (belowK_b (w:=t) ow (W.putObj X (.deferred none)) D _ (.deferred none) hD Q rfl rfl);rw[H0.o,acr H0.o];exact⟨_,results_tmp2 rfl _ _ _,_,rfl,arc y (Nat.le_succ _),F.trans (m.mono ow)⟩
  case stop2 =>
   rintro D c pre W _ _ h _;exact h.elim
 case stop =>
  rintro D c pre W _ _ h _;exact h.elim
theorem aht(B:Nat)(x but:Int)(w:World)(a:B<w.heap.size)(c:w.cell? ⟨B,0,none⟩=some (.int .i64 but)):
  Calls prog 182 #[.int .i64 x,.pointer (some ⟨B,0,none⟩)] w λe w'=>e = .returned (.bool (x==but))/\Bw w w':=by
 go_enter func182,ntmps182;go_wp2_with fail;go_ret;exact⟨rfl,Below.refl _ _⟩
def Og(s:St)(o l:Nat)(n:Int)(av:Int->Int)(F:List Int)(A BX BL g k:Nat)(wk:World):Prop :=
 ∃x:St,ey s o l n (Tk.go av n (F.take k)) x/\ah A wk x/\Blk wk BX 36 7 (λj=>x.cells.getD j default)/\Blk wk g 3 F.length (λj => .int .i64 (F.getD j 0))/\(x.os.z o).ls.a=some ⟨BL,0,none⟩
theorem aj2{F:List Int}{k:Nat}(a:k<F.length):F.take (k+1)=F.take k++[F.getD k 0]:=by
 rw[List.take_add_one];simp[List.getD,List.getElem?_eq_getElem a]
theorem aq5{F:List Int}{k:Nat}(a:k<F.length):F.getD k 0∈F:=by
 simp[List.getD,List.getElem?_eq_getElem a]
theorem Hr(h:ag p s=0)(a:b<p.nb)(c:g<p.ns):mj p s b g=0/\xf p s b g=aq s b g:=by
 have e:mj p s b g=0:=by unfold mj;rw[if_pos h,cy ow,cy ow];rfl
 exact⟨e,by unfold xf;rw[if_pos e];rfl⟩
theorem aid(r:am p s)(hb:b<p.nb)(a:g<p.ns):0<=aq s b g/\aq s b g<=200:=by
 have f:=r.fm;refine⟨(mv (r.goods g a)).2 b hb,?_⟩;have c:=f.sh.num b G8 g a;have d:=(pd (s:=s) (b:=b) (g:=g) f.holdN).1;have e:=(lm (s:=s) (b:=b) (g:=g) f.moveN).1;unfold aq;omega
theorem Pz(p:Pl)(s:St)(order line n but:Int)(w:World)(hp:p.At w)(hs:s.At w):
  Calls prog 134 #[p.val,s.val,.int .i64 order,.int .i64 line,.int .i64 n,.int .i64 but] w λe w'=>∃x:St,e = .returned (.tuple #[x.val,.int .i64 (D8 p s order line n but),.int .i64 (ii p s order line n but)])/\x.At w'/\B8 p s order line n but x/\(ii p s order line n but=0->ah w.heap.size w' x)/\Bw w w':=by
 obtain⟨W0,hW,a6,X0,K0,Z0⟩:∃W,((((w.alloc (.cells #[.slice p.ab p.nb p.cb,.slice p.sa p.ns p.cs] 25)).alloc (.cells s.cells 36)).alloc (.cells #[.int .i64 but] 3)).alloc (.cells #[.slice .none 0 0,.slice .none 0 0,.slice .none 0 0,.slice .none 0 0,.slice .none 0 0,.slice .none 0 0,.slice .none 0 0] 36))=W/\Bw w W/\jj W w.heap.size (w.heap.size+1) p s/\Blk W (w.heap.size+2) 3 1 (λ_ => .int .i64 but)/\Blk W (w.heap.size+3) 36 7 (λ_ => .slice .none 0 0):=
  ⟨_,rfl,((dx _ _ _).alloc oq _).alloc oq _,((ku w p s _ _).below (brf.alloc nlr _)).below (brf.alloc nlr _),((Blk.mk' (cur:=#[.int .i64 but]) vq rfl).congr (λj hj=>by match j,hj with|0,_=>rfl)).alloc _,(Blk.mk' (cur:=#[.slice .none 0 0,.slice .none 0 0,.slice .none 0 0,.slice .none 0 0,.slice .none 0 0,.slice .none 0 0,.slice .none 0 0]) vq rfl).congr (λj hj=>by match j,hj with|0,_=>rfl|1,_=>rfl|2,_=>rfl|3,_=>rfl|4,_=>rfl|5,_=>rfl|6,_=>rfl)⟩
 have HC:Hid (∀J,Bw W0 J->jj J w.heap.size (w.heap.size+1) p s/\p.At J/\s.At J/\Bw w J/\Blk J (w.heap.size+3) 36 7 (λ_ => .slice .none 0 0)/\Blk J (w.heap.size+2) 3 1 (λ_ => .int .i64 but)):=λJ h=>⟨X0.below h,(hp.below a6).below h,(hs.below a6).below h,a6.trans (h.mono a6.size),Z0.below h,K0.below h⟩;unfold St.cells at hW;have HW:=hid hW;have leb:=hp.leb;have ck:=hp.capb;have capb:=ck;have les:=hp.les;have caps:=hp.caps;have gp:=Z0.lt;unfold maxLen at capb caps;clear hW X0 Z0 K0 hp hs;unfold Pl.val St.val;go_enter func134,ntmps134;go_wp2_with fail;rw[HW.o];obtain⟨X,i,q,f,r,K⟩:=HC.o W0 brf;refine(Ty p s order line n but W0 i q).mono ?_;rintro e w1 ⟨rfl,hB⟩;clear X i q f r K HW;obtain⟨⟨⟨l1,d0,d1⟩,l2,c0,c1,c2,c3,c4,c5,c6⟩,i,q,f,r,K⟩:=HC.o w1 hB;by_cases hE:ii p s order line n but=0;rotate_left
 .have HX:Hid (D8 p s order line n but=0):=if_neg hE;clear c0 c1 c2 c3 c4 c5 c6 i q K;obtain⟨zl,fr,fp,fs,zc1,ft,zc2,fv,zc3,fw,zc4,fx,zc5,fy,fq⟩:=z7 r;go_wp2_with fail;have KZ:=n7b r;have ai:=n7w (b:=w.heap.size+3) f ow;unfold set7 at KZ ai;obtain⟨bo,bp,bq,br,bs,bt,bu⟩:=dp KZ;refine Xzq (v := .tuple #[mw.val,.int .i64 0,.int .i64 (ii p s order line n but)]) (by simp[results,results134,go_sem,mw,St.val,bo,bp,bq,br,bs,bt,bu]) rfl ?_;exact⟨mw,ja,Df _,⟨λh=>absurd h hE,λ_=>⟨rfl,rfl,rfl,rfl,rfl,rfl,rfl⟩⟩,λh=>absurd h hE,ai⟩
 have HE:=hid hE;have t:Hid (p9 p s order line n but):=allocIn hE;rw[hE];clear hE;have D:Hid (am p s):=et t.o.st;have c7:Hid (iu p=0):=(yg D.o.fm.sh0).1;obtain⟨o,rfl⟩:=Qzz t.o.o0;obtain⟨l,rfl⟩:=Qzz t.o.l0;have ho:o<s.os.n:=t.o.on;have hl:l<(s.os.z o).ls.n:=t.o.ln;have nb1:=D.o.fm.sh.pl.nb1;have nb6:=D.o.fm.sh.pl.nb6;have c8:=hid i;clear i q c0 c1 c2 c3 c4 c5 c6 f r;go_wp2_with fail;refine(aes p w1 c8.o).mono ?_;rintro e w2 ⟨v,rfl,hown,af⟩;clear l1 d0 d1 l2 c8;rw[acr c7.o] at hown;have HWL:Hid ((gh p).length=p.nb):=aee p;have hv:v ≠ .slice none 0 0:=anr;obtain⟨g,c,rfl,ev,ew,hg,hk⟩:=Blk.ofOwns hown hv;have dn:Blk w2 g 3 (gh p).length (λj => .int .i64 ((gh p).getD j 0)):=am2;have cx:Hid (Calls prog 181 #[.slice (some ⟨g,0,none⟩) (gh p).length c,.func (.func 182) #[] #[.pointer (some ⟨w.heap.size+1+1,0,none⟩)]] w2 λe w'=>e = .returned (.slice (some ⟨g,0,none⟩) (fh p but).length c)/\Blk w' g 3 (fh p but).length (λj => .int .i64 ((fh p but).getD j 0))/\Below w1.heap.size w2 w'):=
  aqd 182 #[.pointer (some ⟨w.heap.size+1+1,0,none⟩)] (λx=>x==but) w1.heap.size g c (gh p) w2 hg af.size ev ew dn (enters_of func182 ko rfl) (λx wz r=>by
   have H:=K.lt;exact aht (w.heap.size+1+1) x but wz (Xzx H (Qzx af.size r.size)) ((r.cell (p:=⟨w.heap.size+2,0,none⟩) H).trans ((af.cell (p:=⟨w.heap.size+2,0,none⟩) H).trans (K.k 0))))
 rw[c7.o];clear hown hv hk dn;go_wp2_with fail;refine cx.o.mono ?_;rintro e w3 ⟨rfl,cd,da⟩;have ap:=af.trans da;have ae:=hB.trans (ap.mono hB.size);have e6:=ap.size;have c9:=cd.lt;have cy:=hid cd;have gu:(fh p but).length<=6:=by
  have:=HWL.o;exact aoy
 have gv:(fh p but).length<=c:=aoy;clear cx cd K af da ap hB;obtain⟨⟨⟨l1,d0,d1⟩,l2,c0,c1,c2,c3,c4,c5,c6⟩,i,q,f,r,K⟩:=HC.o w3 ae;have cw:Hid _:=pv p s w3 q D.o.fm;clear i q f r K;go_wp2_with fail;refine Calls.mono cw.o ?_;rintro e w4 ⟨x0,rfl,hsame,hown,a4⟩;clear cw l1 d0 d1 l2 c0 c1 c2 c3 c4 c5 c6;have q4:=a4.size;obtain⟨W5,dk,aw,K5⟩:=ab7 w4 x0;have bm:=hid dk;have ar:=a4.trans (aw.mono a4.size);have db:=ae.trans (ar.mono ae.size);have u:=ah.below hown aw;have dr:=cy.o.below ar;have du:o<x0.os.n:=Nx;have e0:=hsame.os.2 o du;have e1:l<(x0.os.z o).ls.n:=by rw[e0.2.1];exact hl
 obtain⟨gO,BL,f1,f2,f3,f4,G,f6,f7,f8,f9,Q,F,f12,ad,S⟩:=u.lineCell du e1;have s1:W5.cell? ⟨w4.heap.size,1,none⟩=some (.slice x0.os.a x0.os.n x0.os.c):=K5.k 1;have s2:=K5.lt;have v1:=u.os.le;have v2:=u.os.cap;rw[f1] at s1;have bk:Hid (Og s o l n (λb=>aq s b.toNat (fu s o l).o.toNat) (fh p but) w3.heap.size w4.heap.size BL g 0 W5):=⟨x0,by rw[Qyz];exact ey.start D.o.fm.hold hsame,u,K5,dr,G⟩;have qo:(0:Int)<=(o:Int):=ow;have ql:(0:Int)<=(l:Int):=ow;have a2:=qa5 db ae.size q4 c9 f6;rw[<-bm.o] at s1 s2 f3 f4 f7;unfold maxLen at v2 f9;clear dk hown u dr K5 a4 aw ar db f1 f2 G f6 Q F f12 ad S e0 hsame cy;simp only[St.val];go_wp2_with fail;rw[bm.o];clear s1 s2 f3 f4 f7 bm ae q4 e6 c9 v1 v2 f8 f9
 generalize x0.os.n=XN at *
 go_loopw [4,56] (λnv kv J=>∃k:Nat,k<=(fh p but).length/\kv = .int .i64 k/\nv = .int .i64 (Tk.go (λb=>aq s b.toNat (fu s o l).o.toNat) n ((fh p but).take k)).left/\Hid (Og s o l n (λb=>aq s b.toNat (fu s o l).o.toNat) (fh p but) w3.heap.size w4.heap.size BL g k J)/\Hid (Bw W0 J)) (λ_ kv _=>(fh p but).length-(intOf kv).toNat)
 case atStart=>exact⟨0,Qxz _,rfl,rfl,bk,a2.o.1⟩
 clear bk;obtain⟨k,hk,rfl,rfl,HV,Y⟩:=hrel;have ac:Hid (Ce (λb=>aq s b.toNat (fu s o l).o.toNat) n ((fh p but).take k) (Tk.go (λb=>aq s b.toNat (fu s o l).o.toNat) n ((fh p but).take k))):=t.o.tk ((yd p but).sublist (List.take_sublist _ _)) (λx hx=>t.o.way x (List.mem_of_mem_take hx));have a1:Hid (k<(fh p but).length->Tk.go (λb=>aq s b.toNat (fu s o l).o.toNat) n ((fh p but).take (k+1))=(Tk.go (λb=>aq s b.toNat (fu s o l).o.toNat) n ((fh p but).take k)).step (λb=>aq s b.toNat (fu s o l).o.toNat) ((fh p but).getD k 0)):=λh=>by rw[aj2 h,Tk.go_more]
 have V:Hid (k=(fh p but).length->Tk.go (λb=>aq s b.toNat (fu s o l).o.toNat) n ((fh p but).take k)=Ur p s (fu s o l).o n but):=λh=>by rw[h,List.take_length];rfl
 obtain⟨x,hT,hO,hK,hF,ds⟩:=HV.o;have HX:=qa5 hT hO hK hF ds;obtain⟨T,di⟩:∃T,Tk.go (λb=>aq s b.toNat (fu s o l).o.toNat) n ((fh p but).take k)=T:=⟨_,rfl⟩;rw[di] at ac a1 V HX ⊢;clear hT hO hK hF ds HV di;have fg:=ac.o.left0;have fj:=ac.o.leftn;have gx:=t.o.n2;by_cases H:k<(fh p but).length;rotate_left
 .have ez:k=(fh p but).length:=ow;have HT:Hid (T=Ur p s (fu s o l).o n but):=V.o ez;clear V;have KX:=HX.o.2.2.1;obtain⟨m1,p0,p1,p2,p3,p4,p5,p6⟩:=Boxed.of KX;obtain⟨-,-,-,f,r,-⟩:=HC.o wr Y.o;have HZ:=qa2 f r;obtain⟨zl,fr,fp,fs,zc1,ft,zc2,fv,zc3,fw,zc4,fx,zc5,fy,fq⟩:=z7 r;clear KX f r;go_wp2_with fail;have KZ:=s7b HZ.o.2 x;have ai:=s7w (b:=w.heap.size+3) HZ.o.1 ow x;have b8:=s7o HX.o.2.1 HZ.o.2 x;unfold set7 at KZ ai b8;obtain⟨bo,bp,bq,br,bs,bt,bu⟩:=dp KZ;refine Xzq (v := .tuple #[x.val,.int .i64 T.left,.int .i64 0]) (by simp[results,results134,go_sem,St.val,bo,bp,bq,br,bs,bt,bu]) rfl ?_;have HL:D8 p s o l n but=T.left:=by rw[HT.o];exact if_pos HE.o
  refine⟨x,by rw[HL,HE.o];rfl,b8.at,⟨λ_ => ?_,λh=>absurd HE.o h⟩,λ_=>b8.mono ?_,ai⟩
  .rw[<-HT.o];exact HX.o.1
  have:=(HC.o _ a2.o.1).2.2.2.1.size;have:=a2.o.2.1;omega
 have aa:Hid _:=a1.o H;obtain⟨b9,ca⟩:=t.o.way _ (aq5 H);have z0:=HX.o.2.2.2.1.cell (j:=k) H;have z1:=HX.o.2.2.2.1.lt;obtain⟨E,a7⟩:=Qzz b9;have cv:=hid a7;rw[a7] at z0 ca;have ax:E<p.nb:=ow;have dl:=t.o.good;obtain⟨gd,a8⟩:=Qzz dl.1;have gr:=hid a8;have ay:gd<p.ns:=ow;have bj:Hid (∀w',p.At w'->s.At w'->Calls prog 143 #[p.val,s.val,.int .i64 (E:Int),.int .i64 (gd:Int)] w' λe fl=>e = .returned (.tuple #[.int .i64 (aq s E gd),.int .i64 0])/\Bw w' fl):=λw' h1 h2=>by
  have h:=Mj p s E gd w' h1 h2;rw[(Hr t.o.st ax ay).1,(Hr t.o.st ax ay).2] at h;exact h
 have gs:=aid D.o ax ay;have ef:Hid ((λb:Int=>aq s b.toNat (fu s o l).o.toNat) ((fh p but).getD k 0)=aq s E gd):=by
  show aq s ((fh p but).getD k 0).toNat (fu s o l).o.toNat=_;rw[a7,a8]
  rfl
 generalize hAVd:aq s E gd=AV at *
 clear hAVd;have ho1:o<x.os.n:=by rw[HX.o.1.os.1];exact ho
 have ex:=HX.o.1.os.2 o ho1;have aj:l<(x.os.z o).ls.n:=by rw[ex.2.1];exact hl
 obtain⟨gO,cp,f1,f2,f3,f4,G,f6,f7,f8,f9,Q,F,f12,ad,S⟩:=HX.o.2.1.lineCell ho1 aj;rw[HX.o.2.2.2.2] at G;simp only[co] at G;subst G;have dm:((x.os.z o).ls.z l).o=(gd:Int):=by
  rw[ex.2.2 l aj,if_pos ⟨rfl,rfl⟩];exact a8
 have cc:((x.os.z o).ls.z l).n=(fu s o l).n-(n-T.left):=by
  rw[ex.2.2 l aj,if_pos ⟨rfl,rfl⟩]
  rfl
 have gq:=hid cc;have eu:=fi (D.o.fm.line o ho l hl);have ea : -1000<=((x.os.z o).ls.z l).n/\((x.os.z o).ls.z l).n<=1000:=by
  rw[cc];have h1:(fu s o l).n=((s.os.z o).ls.z l).n:=rfl;rw[h1];omega
 rw[dm] at F;obtain⟨⟨⟨l1,d0,d1⟩,l2,c0,c1,c2,c3,c4,c5,c6⟩,i,q,f,r,K⟩:=HC.o wr Y.o;have bl:=qa2 i q;have r0:=Qqq d0;have r1:=Qqq d1;have e8:=Qqq c0;have e9:=Qqq c1;have fa:=Qqq c2;have fb:=Qqq c3;have fc:=Qqq c4;have fd:=Qqq c5;have fe:=Qqq c6;have rl:=Qqq F;clear a7 a8 dl i q f r K d0 d1 c0 c1 c2 c3 c4 c5 c6 l1 l2 f1 f2 f3 f4 f6 f8 f9 Q F f12 ad S ex dm cc eu V b9 ca;obtain⟨A,b6⟩:∃A,((x.os.z o).ls.z l).n=A:=⟨_,rfl⟩;have cu:=hid b6;rw[b6] at ea;clear b6;obtain⟨N,hN⟩:∃N,T.left=N:=⟨_,rfl⟩;have HN:=hid hN;rw[hN] at fg fj ⊢;clear hN;have q0:(0:Int)<=(k:Int):=ow;have a3:Hid (∀m,min N AV=m->min T.left ((λb:Int=>aq s b.toNat (fu s o l).o.toNat) ((fh p but).getD k 0))=m):=λm h=>by rw[ef.o,HN.o];exact h
 go_wp2_with fail;refine Qxq ko ko ?_
 repeat(go_big_quiet_step((go_at_call 143;exact Xxz (bj.o _ (bl.o.1.below (Qxx _ _ _)) (bl.o.2.below (Qxx _ _ _))))))
 refine Qqz ?_;intro L hw9;have ag:Bw wr L:=Xd;clear hw9 r0 r1 e8 e9 fa fb fc fd fe rl bl z0 z1 bj;have B:=hid (Y.o.trans (ag.mono Y.o.size));have HX9:Hid (ey s o l n T x/\ah w3.heap.size L x/\Blk L w4.heap.size 36 7 (λj=>x.cells.getD j default)/\Blk L g 3 (fh p but).length (λj => .int .i64 ((fh p but).getD j 0))/\(x.os.z o).ls.a=some ⟨BL,0,none⟩):=⟨HX.o.1,ah.below HX.o.2.1 ag,HX.o.2.2.1.below ag,HX.o.2.2.2.1.below ag,HX.o.2.2.2.2⟩;clear ag HX Y f7;by_cases e2:min AV N=0
 .have dt:min N AV=0:=ow;have M:Hid (Og s o l n (λb=>aq s b.toNat (fu s o l).o.toNat) (fh p but) w3.heap.size w4.heap.size BL g (k+1) L/\(Tk.go (λb=>aq s b.toNat (fu s o l).o.toNat) n ((fh p but).take (k+1))).left=N):=by
   refine⟨⟨x,?_,HX9.o.2⟩,?_⟩
   .rw[aa.o];exact HX9.o.1.stepZero (a3.o 0 dt)
   rw[aa.o];show T.left-min T.left _=N;rw[a3.o 0 dt,HN.o];omega
  go_wp2_with fail;go_roundw
  case rel=>exact⟨k+1,ow,vo,by rw[M.o.2],M.o.1,B⟩
  case measure=>simp[intOf];omega
 obtain⟨d,df⟩:∃d,min AV N=d:=⟨_,rfl⟩;have eg:=hid df;have e4:0<d:=ow;have e5:d<=N:=ow;have gw:(d==0)=false:=oq;have cz:Hid (min N AV=d):=by show min N AV=d;omega
 have cr:Hid (addE x.hs.n x.hs.z (lu o l E d)=0):=by
  have h:=HX9.o.1.addE (p:=p) (order:=o) (line:=l) (but:=but) t.o (λx hx=>t.o.way x (List.mem_of_mem_take hx)) ac.o (b:=(E:Int)) ⟨ow,ow⟩ e4 (by rw[HN.o];exact e5);exact h
 have KX:=HX9.o.2.2.1;have y2:L.cell? ⟨w4.heap.size,2,none⟩=some (.slice x.hs.a x.hs.n x.hs.c):=KX.k 2;have y3:=KX.lt;have cq:Hid (Calls prog 183 #[.slice x.hs.a x.hs.n x.hs.c,.agg #[.int .i64 (o:Int),.int .i64 (l:Int),.int .i64 (E:Int),.int .i64 d]] L λe w'=>∃s':Hs,e = .returned (.tuple #[s'.val,.int .i64 0])/\ct L.heap.size 107 w' s'/\Hn x.hs.n x.hs.z (lu o l E d) s'/\Bw L w'):=by
  have h:=aef x.hs (lu o l E d) L HX9.o.2.1.hs.at;rw[cr.o] at h;exact h
 clear KX e2 eg;go_wp2_with fail;refine cq.o.mono ?_;rintro e wa ⟨y,rfl,ch,dv,U⟩;clear y2 y3 cq df;have q9:=B.o.size;have qa:=U.size;obtain⟨b1,b2,b3,b4,b5⟩:=a2.o;have dg:=ah.below HX9.o.2.1 U;have KA:=HX9.o.2.2.1.below U;have FA:=HX9.o.2.2.2.1.below U;have b7:=B.o.trans (U.mono B.o.size);have gb:=HX9.o.2.2.1.lt;have ho1:o<x.os.n:=ald;have a5:=(dg.withHolds (ch.mono ow)).box KA 2 (.slice y.a y.n y.c);have KB:=KA.set 2 (.slice y.a y.n y.c);have FB:=FA.other (a:=⟨w4.heap.size,2,none⟩) (Blk.ne2 FA KA dc) (.slice y.a y.n y.c);have dd:=b7.setCell (p:=⟨w4.heap.size,2,none⟩) S6 (.slice y.a y.n y.c);have aj:l<(x.os.z o).ls.n:=atg;obtain⟨gO,cp,f1,f2,f3,f4,G,f6,f7,f8,f9,Q,F,f12,ad,S⟩:=a5.lineCell (o:=o) (l:=l) ho1 aj;have bx:(x.os.z o).ls.a=some ⟨cp,0,none⟩:=G;rw[HX9.o.2.2.2.2] at bx;simp only[co] at bx;subst bx;have d6:(wa.setCell ⟨w4.heap.size,2,none⟩ (.slice y.a y.n y.c)).cell? ⟨BL,l*4+3,none⟩=some (.int .i64 ((x.os.z o).ls.z l).n):=S;rw[cu.o] at d6;have gt:=Q (l*4+3);obtain⟨B',az,-,-,-,ce⟩:=a5.os.lines o ho1;rw[G] at az;simp only[co] at az;subst az;have dh:=a5.setLine (o:=o) ho1 G l 3 dc (A-d);have KC:=KB.other (a:=⟨BL,l*4+3,none⟩) (Blk.ne2 KB ce dc) (.int .i64 (A-d));have FC:=FB.other (a:=⟨BL,l*4+3,none⟩) (Blk.ne2 FB ce dc) (.int .i64 (A-d));have de:=dd.setCell (p:=⟨BL,l*4+3,none⟩) Cx (.int .i64 (A-d));have dj:=HX9.o.1.stepAdd (av:=λb=>aq s b.toNat (fu s o l).o.toNat) (order:=o) (line:=l) (b:=(fh p but).getD k 0) (m:=d) ho hl (a3.o d cz.o) (by rw[cv.o];exact cr.o) (by rw[cv.o];exact dv);have M:Hid (Og s o l n (λb=>aq s b.toNat (fu s o l).o.toNat) (fh p but) w3.heap.size w4.heap.size BL g (k+1) ((wa.setCell ⟨w4.heap.size,2,none⟩ (.slice y.a y.n y.c)).setCell ⟨BL,l*4+3,none⟩ (.int .i64 (A-d)))/\(Tk.go (λb=>aq s b.toNat (fu s o l).o.toNat) n ((fh p but).take (k+1))).left=N-d/\Bw W0 ((wa.setCell ⟨w4.heap.size,2,none⟩ (.slice y.a y.n y.c)).setCell ⟨BL,l*4+3,none⟩ (.int .i64 (A-d)))):=by
  refine⟨⟨withHolds (setLine x o l 3 (A-d)) y,?_,dh,KC.congr (λj hj=>by match j,hj with|0,_=>rfl|1,_=>rfl|2,_=>rfl|3,_=>rfl|4,_=>rfl|5,_=>rfl|6,_=>rfl),FC,?_⟩,?_,de⟩
  .rw[aa.o];have h:=dj;rw[show((x.os.z ((o:Nat):Int).toNat).ls.z ((l:Nat):Int).toNat).n=A from cu.o] at h;exact h
  .exact((dw (s:=x) (o:=o) (l:=l) (c:=3) (v:=A-d) o).2.1).trans HX9.o.2.2.2.2
  rw[aa.o];show T.left-min T.left _=N-d;rw[a3.o d cz.o,HN.o]
 have z1:=KA.lt;have z2:=KA.frozen 2;have z3:=KA.k 2;clear dg KA FA b7 a5 KB FB dd f1 f2 f3 f4 G f6 f8 f9 Q F f12 ad S ce dh KC FC de dj ch dv U HX9 B ac aa;simp only[Hs.val];go_wp2_with fail;go_roundw
 case rel=>exact⟨k+1,ow,vo,by rw[M.o.2.1],M.o.1,M.o.2.2⟩
 case measure=>simp[intOf];omega
theorem Xo(p:Pl)(s:St)(b g:Nat)(w:World)(i:p.At w)(hs:s.At w)(h:ag p s=0)(d:b<p.nb)(f:g<p.ns):
  Calls prog 143 #[.agg #[.slice p.ab p.nb p.cb,.slice p.sa p.ns p.cs],.agg #[.slice s.on.a s.on.n s.on.c,.slice s.os.a s.os.n s.os.c,.slice s.hs.a s.hs.n s.hs.c,.slice s.ms.a s.ms.n s.ms.c,.slice s.si.a s.si.n s.si.c,.slice s.so.a s.so.n s.so.c,.slice s.sf.a s.sf.n s.sf.c],.int .i64 (b:Int),.int .i64 (g:Int)] w λe w'=>e = .returned (.tuple #[.int .i64 (aq s b g),.int .i64 0])/\Bw w w':=by
 have k:=Mj p s b g w i hs;rw[(Hr h d f).1,(Hr h d f).2] at k;exact k
def Kz(p:Pl)(s:St):Int:=if ag p s=0 then(jz s s.os.n:Nat) else 0
theorem Vz(h:(s.os.z i).k=2):jz s (i+1)=jz s i:=by simp only[jz];rw[if_pos h,Nat.add_zero]
theorem Rr(h:¬(s.os.z i).k=2):jz s (i+1)=jz s i+1:=by simp only[jz];rw[if_neg h]
theorem aqn(p:Pl)(s:St)(w:World)(J:p.At w)(hs:s.At w):
  Calls prog 67 #[p.val,s.val] w λe w'=>e = .returned (.tuple #[.int .i64 (Kz p s),.int .i64 (ag p s)])/\Bw w w':=by
 obtain⟨l,E,F,D⟩:=Lf w p s;have m:=Ic J hs F D;have B:=hid E;have ab:=hs.os.le;have K:=hs.os.cap;unfold maxLen at K;clear E D J hs;unfold Pl.val St.val;go_enter func67,ntmps67;go_wp2_with fail;rw[B.o];refine(l8 p s l (m.o l brf).2.1 (m.o l brf).2.2.1).mono ?_;rintro e w1 ⟨rfl,x⟩;clear B;obtain⟨⟨⟨U,S,T⟩,V,Q,c1,c2,c3,c4,c5,c6⟩,-,-,b⟩:=m.o w1 x;by_cases h0:ag p s=0;rotate_left
 .have g0:(ag p s !=0)=true:=qh;have o:Hid (Kz p s=0):=by show Kz p s=0;unfold Kz;rw[if_neg h0]
  clear h0;go_wp2_with fail
  go_ret2
  exact⟨by rw[o.o];rfl,b⟩
 have L:Hid (am p s):=et h0;have o:Hid (Kz p s=(jz s s.os.n:Nat)/\ag p s=0):=⟨by unfold Kz;rw[if_pos h0],h0⟩;have os4:=L.o.fm.os4;have q:=hid x;rw[h0];clear h0 b x;go_wp2_with fail;clear U S T V Q c1 c2 c3 c4 c5 c6
 go_loopw [7,19] (λW y Y=>∃i:Nat,i<=s.os.n/\y = .int .i64 i/\W = .int .i64 (jz s i:Nat)/\Hid (Bw l Y)) (λ_ y _=>s.os.n-(intOf y).toNat)
 case atStart=>exact⟨0,Qxz _,rfl,rfl,q⟩
 clear q;obtain⟨i,hi,rfl,rfl,v⟩:=hrel;have on:=Ky s i;obtain⟨-,-,f,b⟩:=m.o wr v.o;by_cases G:i<s.os.n;rotate_left
 .have X:(s.os.n:Int)<=(i:Int):=ow;have t:i=s.os.n:=ow;have A:=hid t;clear f t;go_wp2_with fail
  go_ret2
  exact⟨by rw[o.o.1,o.o.2,A.o];rfl,b⟩
 have q2:(0:Int)<=(i:Int):=ow;have X:(i:Int)<(s.os.n:Int):=ow;obtain⟨bo,oo,d,aa,z0,z1,u⟩:=f.os.ods i G;have r:Hid (Bw l (wr.alloc (.cells #[.int .i64 (s.os.z i).k,.slice (s.os.z i).ls.a (s.os.z i).ls.n (s.os.z i).ls.c] 124))):=v.o.alloc v.o.size _;by_cases hk:(s.os.z i).k=2
 .have g:=Vz hk;have j:=hid g;have H:((s.os.z i).k !=2)=false:=by rw[hk];rfl
  rw[d];clear d g u hk f b
  generalize (s.os.z i).k=M at *
  go_wp2_with fail;go_roundw
  case rel=>exact⟨i+1,ow,vo,by rw[j.o],r⟩
  case measure=>simp[intOf];omega
 have g:=Rr hk;have j:=hid g;have H:((s.os.z i).k !=2)=true:=Ha;rw[d];clear d g u hk f b
 generalize (s.os.z i).k=M at *
 go_wp2_with fail;go_roundw
 case rel=>exact⟨i+1,ow,vo,by rw[j.o];go_num,r⟩
 case measure=>simp[intOf];omega
theorem aem(p:Pl)(s:St)(w:World)(hs:s.At w)(f:cu p s):
  Calls prog 79 #[s.val] w λe w'=>e = .returned (.int .i64 (jz s s.os.n:Nat))/\Bw w w':=by
 obtain⟨b,t,o,x⟩:∃b,w.alloc (.cells s.cells 36)=b/\Bw w b/\Blk b w.heap.size 36 7 (λj=>s.cells.getD j default):=⟨_,rfl,(Below.refl w.heap.size w).alloc nlr _,Blk.mk' rfl rfl⟩;have G:Hid (∀d,Bw b d->s.At d/\d.cell? ⟨w.heap.size,1,none⟩=some (.slice s.os.a s.os.n s.os.c)/\w.heap.size<d.heap.size/\Bw w d):=λd h=>⟨(hs.below o).below h,(x.below h).k 1,(x.below h).lt,o.trans (h.mono o.size)⟩;have B:Hid (w.alloc (.cells #[.slice s.on.a s.on.n s.on.c,.slice s.os.a s.os.n s.os.c,.slice s.hs.a s.hs.n s.hs.c,.slice s.ms.a s.ms.n s.ms.c,.slice s.si.a s.si.n s.si.c,.slice s.so.a s.so.n s.so.c,.slice s.sf.a s.sf.n s.sf.c] 36)=b):=t;have os4:=f.os4;have M:=hs.os.le;have F:=hs.os.cap;unfold maxLen at F;have r:Hid (Bw b b):=Below.refl _ _;clear x t hs f;unfold St.val;go_enter func79,ntmps79;go_wp2_with fail;rw[B.o];clear B
 go_loopw [3,4] (λJ y d=>∃i:Nat,i<=s.os.n/\y = .int .i64 i/\J = .int .i64 (jz s i:Nat)/\Hid (Bw b d)) (λ_ y _=>s.os.n-(intOf y).toNat)
 case atStart=>exact⟨0,Qxz _,rfl,rfl,r⟩
 clear r;obtain⟨i,hi,rfl,rfl,v⟩:=hrel;have on:=Ky s i;obtain⟨g,c1,S,m⟩:=G.o wr v.o;by_cases D:i<s.os.n;rotate_left
 .have K:(s.os.n:Int)<=(i:Int):=ow;have A:Hid (i=s.os.n):=by show i=s.os.n;omega
  clear g;go_wp2_with fail;go_ret;exact⟨by rw[A.o];rfl,m⟩
 have U:(0:Int)<=(i:Int):=ow;have K:(i:Int)<(s.os.n:Int):=ow;obtain⟨Q,T,q,L,V,W,u⟩:=g.os.ods i D;rw[q] at c1;by_cases hk:(s.os.z i).k=2
 .have l:Hid (jz s (i+1)=jz s i):=Vz hk;have E:((s.os.z i).k !=2)=false:=by rw[hk];rfl
  clear q u hk g m
  generalize (s.os.z i).k=H at *
  go_wp2_with fail;go_roundw
  case rel=>exact⟨i+1,ow,vo,by rw[l.o],v⟩
  case measure=>simp[intOf];omega
 have l:Hid (jz s (i+1)=jz s i+1):=Rr hk;have E:((s.os.z i).k !=2)=true:=Ha;clear q u hk g m
 generalize (s.os.z i).k=H at *
 go_wp2_with fail;go_roundw
 case rel=>exact⟨i+1,ow,vo,by rw[l.o];go_num,v⟩
 case measure=>simp[intOf];omega
end Go.Proofs.YtjgckphgagdpaaaGreatDoor

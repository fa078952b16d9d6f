/- Joined texts of DeskPlays. -/
import Derived.Test.YtjgckphgagdpaaaGreatDoorK1DeskPlays
import Derived.BigRegion
import Derived.ArgAppend
import Derived.Deep.Upon
import Derived.Test.YtjgckphgagdpaaaGreatDoorChecked
set_option maxHeartbeats 4000000
set_option maxRecDepth 100000
namespace Go.Proofs.YtjgckphgagdpaaaGreatDoor
variable{n b A g l c i m q r j R C M u:Nat}{P:Prop}{w a w' d X:World}{s x y:St}{W J K D:Int}{e t:TypeId}{p:Pl}{z H:Nat->Hd}{f O:Nat->Value}{Q:Exit->Act->World->Prop}{v U:Value}{V Y:Hs}{Z E:Int->Int->Int}{h:Hd}{xs:List Value}{S:World->Prop}{z' zs:Nat->Int}{a1:Act}
open _root_.Go.Proofs.Tryz
open Go.RowKit
set_option linter.unusedVariables false
def gu(z:Nat->Hd)(i j:Nat):Hd:=if j<i then z j else z (j+1)
def jy(n:Nat)(z:Nat->Hd)(o l b:Int):Nat:=((List.range n).find? (λi=>bq (z i) o l b)).getD 0
def Dt(n:Nat)(z:Nat->Hd)(o l b:Int):Int:=if ip n z=0 then(if keptV n z o l b=0 then 4 else 0) else ip n z
def Fg(n:Nat)(z:Nat->Hd)(o l b:Int):Int:=if ip n z=0 then keptV n z o l b else 0
def aho(n:Nat)(z:Nat->Hd)(o l b:Int)(s':Hs):Prop :=
 s'.n=(if Dt n z o l b=0 then n-1 else 0)/\∀j,j<s'.n->s'.z j=gu z (jy n z o l b) j
theorem Kf{k:Nat}{o l b:Int}(a:k<n)(h:∀j,j<k->bq (z j) o l b=false)(hm:bq (z k) o l b=true):jy n z o l b=k:=by
 unfold jy;have e:List.range n=List.range k++(k :: (List.range (n-k-1)).map (λi=>k+1+i)):=al6;exact avj
theorem H7{x:Hd}{o l b:Int}(t:Hd)(a:t.o=o/\t.l=l/\t.b=b):bq x o l b=true↔oa x t=0:=by
 rw[Ye];simp[bq,a,and_assoc]
theorem Iq(h:ip n z=0):aw n (df z)=false:=apv
theorem ar8{o l b:Int}{t:Hd}(g:aw n (df z)=false)(e:t.o=o/\t.l=l/\t.b=b)(f:Xu n z t i):
  ((decide (i<n)&&decide (oa (z i) t=0))=true->i<n/\keptV n z o l b=(z i).n/\jy n z o l b=i/\1<=(z i).n/\(z i).n<=200) /\
  ((decide (i<n)&&decide (oa (z i) t=0))=false->keptV n z o l b=0/\∀j,j<n->bq (z j) o l b=false):=by
 have lo:∀j,j<i->bq (z j) o l b=false:=λj d=>by
  cases c:bq (z j) o l b
  .rfl
  have:=(H7 t e).1 c;have:=f.lo j d;omega
 constructor
 .intro h;simp only[Xxx,decide_eq_true_eq] at h;have c:=(H7 (x:=z i) t e).2 h.2;have p:=(cw (cd g i h.1)).2.2.2;exact⟨h.1,oy h.1 lo c,Kf h.1 lo c,p⟩
 intro h;have no:∀j,j<n->bq (z j) o l b=false:=λj d=>by
  rcases Nat.lt_trichotomy j i with a|a|a
  .exact lo j a
  .subst a;cases c:bq (z j) o l b
   .rfl
   have:=(H7 t e).1 c;simp[d,this] at h
  cases c:bq (z j) o l b
  .rfl
  have k:=(H7 t e).1 c;have m:=V8 g i j a d;have q:=f.hi i nlr ow;rw[Ye] at k;rw[T4] at m;have r:oa (z i) t<0:=by rw[T4];omega
  omega
 exact⟨lq no,no⟩
theorem xg(z:Nat->Hd)(p:Nat):∀q,ba (p+q) z=ba p z++ba q (λj=>z (p+j))
 | 0=>by simp[ba]
 | q+1=>by
  rw[<-Nat.add_assoc,vj,xg z p q,vj,List.append_assoc]
theorem Ab(n:Nat)(z:Nat->Hd)(i:Nat)(hi:i<n):ba (n-1) (gu z i)=ba i z++ba (n-(i+1)) (λj=>z (i+1+j)):=by
 rw[show n-1=i+(n-(i+1)) by omega,xg];rw[pn (n:=i) (z:=gu z i) (z':=z) λj a=>by simp[gu,a]];rw[pn (n:=n-(i+1)) (z:=λj=>gu z i (i+j)) (z':=λj=>z (i+1+j)) λj a=>by show gu z i (i+j)=_;unfold gu;rw[if_neg ow,show i+j+1=i+1+j by omega]]
theorem jx.cut{a:Addr}(h:jx w (some a) n z)(k:Nat)(p:k<=n)(q:n<=c):jx w (some (if c=k then a else a.add (k*4))) (n-k) (λj=>z (k+j)):=by
 intro i hi;obtain⟨b,o,d,e,f,g,l,m⟩:=h (k+i) ow;simp only[Qkx] at d;subst d;refine⟨b,o+k*4,?_,e,?_,?_,?_,?_⟩
 .rw[if_neg ow,Go.WideShapes.add_plain]
 all_goals(rw[show o+k*4+i*4=o+(k+i)*4 by omega];assumption)
open Go.Shelf Go.Sort
theorem acy(s:Hs)(o l b:Int)(w:World)(hs:s.At w):
  Calls prog 138 #[s.val,.int .i64 o,.int .i64 l,.int .i64 b] w λe w'=>∃K:Hs,e = .returned (.tuple #[K.val,.int .i64 (Fg s.n s.z o l b),.int .i64 (Dt s.n s.z o l b)])/\ct w.heap.size 107 w' K/\aho s.n s.z o l b K/\Bw w w':=by
 have V:=hs;obtain⟨a,n,c,z⟩:=s;obtain⟨hn,hc,hz⟩:=hs;dsimp only at hn hc hz ⊢;have af:=hc;unfold maxLen at hc;simp only[Hs.val];have A:∀w',ct w.heap.size 107 w' ⟨none,0,0,z⟩:=λw'=>ct.nil _ _ _ _;have NA:=hid A;clear A;go_enter func138,ntmps138;go_wp2_with fail;refine(xh ⟨a,n,c,z⟩ w V).mono ?_;rintro e w1 ⟨rfl,y⟩;dsimp only;by_cases B:ip n z=0;rotate_left
 .have hE:Hid (Fg n z o l b=0/\Dt n z o l b=ip n z):=by show _/\_;simp[Fg,Dt,B]
  go_wp2_with fail
  go_ret3
  exact⟨⟨none,0,0,z⟩,alr,NA.o _,⟨by rw[hE.o.2,if_neg B],λj r=>absurd r (Qzq _)⟩,y⟩
 have hr:=Iq B;have ar:=zv hr;go_wp2_with fail;refine(Qt ⟨a,n,c,z⟩ ⟨o,l,b,0⟩ w1 (V.below y) hr).mono ?_;rintro e q ⟨i,rfl,M,ad⟩;dsimp only at M ⊢;have u:=y.trans (ad.mono y.size);obtain⟨Y,fn⟩:=ar8 (o:=o) (l:=l) (b:=b) hr ⟨rfl,rfl,rfl⟩ M;have av:=M.le;have L:=V.below u;clear M hz;cases hf:(decide (i<n)&&decide (oa (z i) ⟨o,l,b,0⟩=0))
 .obtain⟨J,_⟩:=fn hf;have hE:Hid (Fg n z o l b=0/\Dt n z o l b=4):=by show _/\_;simp[Fg,Dt,B,J]
  clear Y fn J;go_wp2_with fail
  go_ret3
  exact⟨⟨none,0,0,z⟩,alr,NA.o _,⟨by rw[hE.o.2];rfl,λj r=>absurd r (Qzq _)⟩,u⟩
 obtain⟨T,J,kI,k1,k2⟩:=Y hf;have hE:Hid (Fg n z o l b=(z i).n/\Dt n z o l b=0/\jy n z o l b=i):=by
  show _/\_/\_;refine⟨by simp[Fg,B,J],?_,kI⟩;unfold Dt;rw[if_pos B,if_neg ow]
 obtain⟨f,g,ha,hb,z0,z1,z2,z3⟩:=L.hds i T;dsimp only at ha z0 z1 z2 z3;subst ha;have r3:=Qqq z3;have m1:(0:Int)<=(i:Int):=ow;have m2:(i:Int)<(n:Int):=ow;have m3:(i:Int)+1<=(n:Int):=ow;have m4:(n:Int)<=(c:Int):=ow;clear Y fn J kI z0 z1 z2;go_wp2_with fail;refine sj (λw'=>∃p:Regrown,w'=grow (redrawn q p.d) p.os)
  ([0,1,2,3,4,5,6,9,10,11,12,13].map (λk=>(true,k))++[(false,7),(false,8),(true,14),(true,15),(false,16)]) ko ko ko ko (Qqx (brf.drew)) ?_
 refine au 0 rfl rfl ?_
 go_big_quiet_step(fail)
 refine Qqz ?_;refine au 1 rfl rfl ?_
 go_big_quiet_step(fail)
 refine Qqz ?_;refine au 2 rfl rfl ?_
 go_big_quiet_step(fail)
 refine Qqz ?_;refine au 3 rfl rfl ?_
 go_big_quiet_step(fail)
 refine Qqz ?_;refine au 4 rfl rfl ?_
 go_big_quiet_step(fail)
 refine Qqz ?_;refine au 5 rfl rfl ?_
 go_big_quiet_step(fail)
 refine Qqz ?_;refine au 6 rfl rfl ?_
 go_big_quiet_step(fail)
 refine Qqz ?_;refine au 9 rfl rfl ?_
 go_big_quiet_step(fail)
 refine Qqz ?_;refine au 10 rfl rfl ?_
 go_big_quiet_step(fail)
 refine Qqz ?_;refine au 11 rfl rfl ?_
 go_big_quiet_step(fail)
 refine Qqz ?_;refine au 12 rfl rfl ?_
 go_big_quiet_step(fail)
 refine Qqz ?_;refine au 13 rfl rfl ?_
 go_big_quiet_step(fail)
 refine Qqz ?_;refine fj 7 dc ?_;simp only[Qyq,Xqq,Qyx,Qyz];go_wp2_with fail
 .have S:c=i+1:=Cz;have D:Hs.At q ⟨some ⟨f,g,none⟩,i,i+1,z⟩:=⟨vq,atj,λj r=>L.hds j (by have:j<i:=r;show j<n;omega),λh=>ix⟩;have E:Hs.At q ⟨some ⟨f,g,none⟩,n-(i+1),0,λj=>z (i+1+j)⟩:=⟨oq,Qxz _,λj r=>by have:j<n-(i+1):=r;omega,λh=>ix⟩;have G:=qa2 D E;clear D E;have x:Bw q (q.alloc (.cells #[.slice (some ⟨f,g,none⟩) i (i+1),.slice (some ⟨f,g,none⟩) (n-(i+1)) (0)] 33)).drew:=(brf.alloc nlr _).drew;refine⟨Qqx x,?_⟩;refine fj 8 dc ?_;simp only[Qyq,Xqq,Qyx,Qyz];go_wp2_with fail;refine(J1 2 q.heap.size 2 (λk=>if k=0 then ⟨some ⟨f,g,none⟩,i,i+1,z⟩ else ⟨some ⟨f,g,none⟩,n-(i+1),0,λj=>z (i+1+j)⟩) _ ow nlr uo ?_ ?_ ?_).mono ?_
  .exact amk
  .exact amw
  .exact an1
  rintro e w3 ⟨v,rfl,m,Q⟩;have t:w3.ownsRow (q.alloc (.cells #[.slice (some ⟨f,g,none⟩) i (i+1),.slice (some ⟨f,g,none⟩) (n-(i+1)) (0)] 33)).drew.heap.size 107 4 v (n-1) (ba (n-1) (gu z i)):=by
   have W:yv (λk=>if k=0 then(⟨some ⟨f,g,none⟩,i,i+1,z⟩:Hs) else ⟨some ⟨f,g,none⟩,n-(i+1),0,λj=>z (i+1+j)⟩) 2=n-1:=aa0;have X:F9 (λk=>if k=0 then(⟨some ⟨f,g,none⟩,i,i+1,z⟩:Hs) else ⟨some ⟨f,g,none⟩,n-(i+1),0,λj=>z (i+1+j)⟩) 2=ba (n-1) (gu z i):=aj6;rw[W,X] at m;exact m
  exact atx
 have S:¬c=i+1:=Cz;have D:Hs.At q ⟨some ⟨f,g,none⟩,i,c,z⟩:=⟨aa3,af,λj r=>L.hds j (by have:j<i:=r;show j<n;omega),λh=>ix⟩;have E:Hs.At q ⟨some ⟨f,g+(i+1)*4,none⟩,n-(i+1),c-(i+1),λj=>z (i+1+j)⟩:=⟨akd,akx,by
  have:=L.hds.cut (c:=c) (i+1) (by show i+1<=n;omega) hn;rw[if_neg S,Go.WideShapes.add_plain] at this;exact this,λh=>ix⟩
 have G:=qa2 D E;clear D E;have x:Bw q (q.alloc (.cells #[.slice (some ⟨f,g,none⟩) i (c),.slice (some ⟨f,g+(i+1)*4,none⟩) (n-(i+1)) (c-(i+1))] 33)).drew:=(brf.alloc nlr _).drew;refine⟨Qqx x,?_⟩;refine fj 8 dc ?_;simp only[Qyq,Xqq,Qyx,Qyz];go_wp2_with fail;refine(J1 2 q.heap.size 2 (λk=>if k=0 then ⟨some ⟨f,g,none⟩,i,c,z⟩ else ⟨some ⟨f,g+(i+1)*4,none⟩,n-(i+1),c-(i+1),λj=>z (i+1+j)⟩) _ ow nlr uo ?_ ?_ ?_).mono ?_
 .exact amk
 .exact amw
 .exact an1
 rintro e w3 ⟨v,rfl,m,Q⟩;have t:w3.ownsRow (q.alloc (.cells #[.slice (some ⟨f,g,none⟩) i (c),.slice (some ⟨f,g+(i+1)*4,none⟩) (n-(i+1)) (c-(i+1))] 33)).drew.heap.size 107 4 v (n-1) (ba (n-1) (gu z i)):=by
  have W:yv (λk=>if k=0 then(⟨some ⟨f,g,none⟩,i,c,z⟩:Hs) else ⟨some ⟨f,g+(i+1)*4,none⟩,n-(i+1),c-(i+1),λj=>z (i+1+j)⟩) 2=n-1:=aa0;have X:F9 (λk=>if k=0 then(⟨some ⟨f,g,none⟩,i,c,z⟩:Hs) else ⟨some ⟨f,g+(i+1)*4,none⟩,n-(i+1),c-(i+1),λj=>z (i+1+j)⟩) 2=ba (n-1) (gu z i):=aj6;rw[W,X] at m;exact m
 exact atx
def jr(n:Nat)(z:Nat->Hd)(h:Hd):Nat:=((List.range n).find? (λi=>decide (0<=oa (z i) h))).getD n
def addE(n:Nat)(z:Nat->Hd)(h:Hd):Int:=if ip n z=0 then(if il h then(if 200<keptV n z h.o h.l h.b+h.n then 3 else 0) else 1) else ip n z
def np(z:Nat->Hd)(i:Nat)(h:Hd)(j:Nat):Hd:=if j<i then z j else if j=i then h else z (j-1)
def ud(z:Nat->Hd)(i:Nat)(h:Hd)(j:Nat):Hd:=if j=i then h else z j
def Au(n:Nat)(z:Nat->Hd)(h:Hd):Nat->Hd:=if keptV n z h.o h.l h.b=0 then np z (jr n z h) h else ud z (jr n z h) ⟨h.o,h.l,h.b,keptV n z h.o h.l h.b+h.n⟩
def sw(n:Nat)(z:Nat->Hd)(h:Hd):Nat:=if keptV n z h.o h.l h.b=0 then n+1 else n
def Hn(n:Nat)(z:Nat->Hd)(h:Hd)(s':Hs):Prop :=
 s'.n=(if addE n z h=0 then sw n z h else 0)/\∀j,j<s'.n->s'.z j=Au n z h j
theorem U1(b:Xu n z h i):jr n z h=i:=by
 unfold jr;by_cases hi:i<n
 .have e:List.range n=List.range i++(i :: (List.range (n-i-1)).map (λq=>i+1+q)):=by
   have:=@List.range_add i (n-i);rw[show i+(n-i)=n by omega] at this;rw[this,show n-i=(n-i-1)+1 by omega,List.range_succ_eq_map];simp[Function.comp_def];intro q d;omega
  rw[e,List.find?_append];have a:(List.range i).find? (λq=>decide (0<=oa (z q) h))=none:=aop;rw[a,List.find?_cons];have:=b.hi i nlr hi;simp[this]
 have c:i=n:=by have:=b.le;omega
 subst c;have a:(List.range i).find? (λq=>decide (0<=oa (z q) h))=none:=aop;rw[a]
 rfl
theorem aiu(n:Nat)(z:Nat->Hd)(i:Nat)(h:Hd)(hi:i<=n):ba (n+1) (np z i h)=ba i z++ba 1 (λ_=>h)++ba (n-i) (λj=>z (i+j)):=by
 rw[show n+1=(i+1)+(n-i) by omega,xg,xg (np z i h) i 1]
 congr 1
 .congr 1
  .exact pn λj a=>by unfold np;rw[if_pos a]
  exact pn λj a=>by
   have:j=0:=ow;subst this;simp[np]
 exact pn λj a=>by
  show np z i h (i+1+j)=_;unfold np;rw[if_neg ow,if_neg ow,show i+1+j-1=i+j by omega]
theorem aiv(n:Nat)(z:Nat->Hd)(i:Nat)(h:Hd)(hi:i<n):ba n (ud z i h)=ba i z++ba 1 (λ_=>h)++ba (n-(i+1)) (λj=>z (i+1+j)):=by
 rw[show ba n (ud z i h)=ba ((i+1)+(n-(i+1))) (ud z i h) by rw[show(i+1)+(n-(i+1))=n by omega],xg,xg (ud z i h) i 1]
 congr 1
 .congr 1
  .exact pn λj a=>by unfold ud;rw[if_neg ow]
  exact pn λj a=>by
   have:j=0:=ow;subst this;simp[ud]
 exact pn λj a=>by
  show ud z i h (i+1+j)=_;unfold ud;rw[if_neg ow]
theorem Hs.one(a:Blk w g e 4 (λj=>(#[.int .i64 h.o,.int .i64 h.l,.int .i64 h.b,.int .i64 h.n]:Array Value).getD j default)):Hs.At w ⟨some ⟨g,0,none⟩,1,1,λ_=>h⟩:=by
 refine⟨Nat.le_refl _,by show 1<=maxLen;unfold maxLen;omega,λi hi => ?_,λh=>ix⟩;have c:i=0:=by have:i<1:=hi;omega
 subst c;exact⟨g,0,rfl,a.lt,a.k 0,a.k 1,a.k 2,a.k 3⟩
theorem I9(s0 d:Hs)(h:Hd)(w:World)(m:Nat)(f:Nat->Hd)(u:s0.At w)(x:d.At w)(n0:s0.n<=100)(n2:d.n<=100)(E:s0.n+1+d.n=m)(y:ba s0.n s0.z++(dt h++ba d.n d.z)=ba m f):
  Calls prog 188 #[.slice (some ⟨w.heap.size+1,0,none⟩) 3 3] ((w.alloc (.cells #[.int .i64 h.o,.int .i64 h.l,.int .i64 h.b,.int .i64 h.n] 107)).alloc (.cells #[.slice s0.a s0.n s0.c,.slice (some ⟨w.heap.size,0,none⟩) 1 1,.slice d.a d.n d.c] 33)).drew λe w' =>
   ∃g:Hs,e = .returned g.val/\ct w.heap.size 107 w' g/\g.n=m/\g.z=f/\Bw w w':=by
 have i:Bw w ((w.alloc (.cells #[.int .i64 h.o,.int .i64 h.l,.int .i64 h.b,.int .i64 h.n] 107)).alloc (.cells #[.slice s0.a s0.n s0.c,.slice (some ⟨w.heap.size,0,none⟩) 1 1,.slice d.a d.n d.c] 33)).drew:=((brf.alloc nlr _).alloc vq _).drew;refine(J1 3 (w.heap.size+1) 3 (λk=>if k=0 then s0 else if k=1 then ⟨some ⟨w.heap.size,0,none⟩,1,1,λ_=>h⟩ else d) _ ow nlr uo ?_ ?_ ?_).mono ?_
 .refine Blk.below (Blk.congr (Blk.mk' vq rfl) (λj A => ?_)) (brf.drew);have s:j=0\/j=1\/j=2:=by have:j<3:=A;omega
  rcases s with rfl|rfl|rfl<;>rfl
 .intro k B;have p:k=0\/k=1\/k=2:=ow;rcases p with rfl|rfl|rfl
  .exact u.below i
  .exact Hs.one (Blk.below (Blk.alloc (Blk.mk' rfl rfl) _) (brf.drew))
  exact x.below i
 .intro k B;have p:k=0\/k=1\/k=2:=ow;rcases p with rfl|rfl|rfl
  .exact n0
  .show 1<=100;omega
  exact n2
 rintro e F ⟨v,rfl,q,r⟩;have c1:yv (λk=>if k=0 then s0 else if k=1 then(⟨some ⟨w.heap.size,0,none⟩,1,1,λ_=>h⟩:Hs) else d) 3=m:=aa0;have c2:F9 (λk=>if k=0 then s0 else if k=1 then(⟨some ⟨w.heap.size,0,none⟩,1,1,λ_=>h⟩:Hs) else d) 3=ba m f:=by rw[<-y];simp[F9,ba]
 rw[c1,c2] at q;obtain⟨g,rfl,t,D,sz⟩:=ct.ofRow q i.size;exact⟨g,rfl,t,D,sz,i.trans (r.mono i.size)⟩
theorem aef(s:Hs)(h:Hd)(w:World)(hs:s.At w):
  Calls prog 183 #[s.val,h.val] w λe w'=>∃M:Hs,e = .returned (.tuple #[M.val,.int .i64 (addE s.n s.z h)])/\ct w.heap.size 107 w' M/\Hn s.n s.z h M/\Bw w w':=by
 have HS:=hs;obtain⟨a,n,c,z⟩:=s;obtain⟨hn,hc,hz,ab⟩:=hs;dsimp only at hn hc hz ab ⊢;have am:=hc;unfold maxLen at hc;simp only[Hs.val,Hd.val];have NA:Hid (∀w',ct w.heap.size 107 w' ⟨none,0,0,z⟩):=λw'=>ct.nil _ _ _ _;have aj:Bw w (w.alloc (.cells #[.int .i64 h.o,.int .i64 h.l,.int .i64 h.b,.int .i64 h.n] 107)):=brf.alloc nlr _;have q:Below (w.heap.size+1) (w.alloc (.cells #[.int .i64 h.o,.int .i64 h.l,.int .i64 h.b,.int .i64 h.n] 107)) (w.alloc (.cells #[.int .i64 h.o,.int .i64 h.l,.int .i64 h.b,.int .i64 h.n] 107)):=Below.refl _ _;have hT:Hid (∀w1,Below (w.heap.size+1) (w.alloc (.cells #[.int .i64 h.o,.int .i64 h.l,.int .i64 h.b,.int .i64 h.n] 107)) w1->(w1.cell? ⟨w.heap.size,0,none⟩=some (.int .i64 h.o)/\w1.cell? ⟨w.heap.size,1,none⟩=some (.int .i64 h.l)/\w1.cell? ⟨w.heap.size,2,none⟩=some (.int .i64 h.b)/\w1.cell? ⟨w.heap.size,3,none⟩=some (.int .i64 h.n))/\w1.frozen? ⟨w.heap.size,3,none⟩=false/\w.heap.size<w1.heap.size):=λw1 L =>
  ⟨⟨(L.cell (p:=⟨w.heap.size,0,none⟩) vq).trans vq,(L.cell (p:=⟨w.heap.size,1,none⟩) vq).trans vq,(L.cell (p:=⟨w.heap.size,2,none⟩) vq).trans vq,(L.cell (p:=⟨w.heap.size,3,none⟩) vq).trans vq⟩,(L.frozen (p:=⟨w.heap.size,3,none⟩) vq).trans vq,by have:=L.size;simp at this;omega⟩
 go_enter func183,ntmps183;go_wp2_with fail;refine(xh ⟨a,n,c,z⟩ _ (HS.below aj)).mono ?_;rintro e w1 ⟨rfl,y⟩;dsimp only;have g:=aj.trans (y.mono vq);have q:=q.trans (y.mono vq);obtain⟨⟨Q,S,T,U⟩,X,J⟩:=hT.o w1 q;clear y hz;by_cases W:ip n z=0;rotate_left
 .have hE:Hid (addE n z h=ip n z):=by show addE n z h=_;simp[addE,W]
  go_wp2_with fail
  go_ret2
  exact⟨⟨none,0,0,z⟩,aa6,NA.o _,⟨by rw[hE.o,if_neg W],λj t=>absurd t (Qzq _)⟩,g⟩
 have hr:=Iq W;have bh:=zv hr;go_wp2_with fail;refine(Al h w1).mono ?_;rintro e w2 ⟨rfl,y⟩;have g:=g.trans (y.mono g.size);have q:=q.trans (y.mono ow);clear Q S T U X J y;obtain⟨⟨Q,S,T,U⟩,X,J⟩:=hT.o w2 q;cases x:il h
 .have hE:Hid (addE n z h=1):=by show addE n z h=1;simp[addE,W,x]
  exact ami
 have bp:=(cw x).2.2.2;go_wp2_with fail;refine(Qt ⟨a,n,c,z⟩ h w2 (HS.below g) hr).mono ?_;rintro e f ⟨i,rfl,hp,y⟩;dsimp only at hp ⊢;have g:=g.trans (y.mono g.size);have q:=q.trans (y.mono ow);clear Q S T U X J y;obtain⟨⟨Q,S,T,U⟩,X,J⟩:=hT.o f q;obtain⟨fy,fn⟩:=ar8 (o:=h.o) (l:=h.l) (b:=h.b) hr ⟨rfl,rfl,rfl⟩ hp;have ae:Hid (jr n z h=i):=U1 hp;have a4:=hp.le;have HZ:=HS.below g;clear hp;have m1:(0:Int)<=(i:Int):=ow;have m2:(i:Int)<=(n:Int):=ow;have m4:(n:Int)<=(c:Int):=ow;cases hf:(decide (i<n)&&decide (oa (z i) h=0));rotate_left
 .obtain⟨an,B,kI,k1,k2⟩:=fy hf;obtain⟨u,v,ha,L,z0,z1,z2,z3⟩:=HZ.hds i an;dsimp only at ha z0 z1 z2 z3;subst ha;have m3:(i:Int)<(n:Int):=ow;have KV:=hid B;clear fy fn B kI z0 z1 z2;go_wp2_with fail
  go_region
  have F:∃m,(f.setCell ⟨w.heap.size,3,none⟩ (.int .i64 (h.n+(z i).n))).drew=m/\Bw w m/\w.heap.size<m.heap.size/\(m.cell? ⟨w.heap.size,0,none⟩=some (.int .i64 h.o)/\m.cell? ⟨w.heap.size,1,none⟩=some (.int .i64 h.l)/\m.cell? ⟨w.heap.size,2,none⟩=some (.int .i64 h.b)/\m.cell? ⟨w.heap.size,3,none⟩=some (.int .i64 (h.n+(z i).n))):=by
   have bx:Blk f w.heap.size 107 4 (λj=>(#[.int .i64 h.o,.int .i64 h.l,.int .i64 h.b,.int .i64 h.n]:Array Value).getD j default):=(Blk.mk' (w:=w) rfl rfl).same (q.block w.heap.size ow);have H:=Blk.below (bx.set 3 (.int .i64 (h.n+(z i).n))) (brf.drew);refine⟨_,rfl,(g.setCell (p:=⟨w.heap.size,3,none⟩) nlr _).drew,H.lt,H.k 0,H.k 1,H.k 2,H.k 3⟩
  obtain⟨m,al,ak,bi,u0,u1,u2,u3⟩:=F;rw[al];clear al Q S T U X z3 J;have Y:=HS.below ak;have g:=ak;cases aa:decide (200<h.n+(z i).n);rotate_left
  .have ai:200<h.n+(z i).n:=by simpa using aa
   have hE:Hid (addE n z h=3):=by
    show addE n z h=3;have B:=KV.o;unfold addE;rw[if_pos W,if_pos x,B,if_pos ow]
   exact ami
  have ai:¬200<h.n+(z i).n:=by simpa using aa
  have hE:Hid (addE n z h=0/\sw n z h=n/\Au n z h=ud z i ⟨h.o,h.l,h.b,h.n+(z i).n⟩):=by
   show _/\_/\_;have B:=KV.o;have ao:¬keptV n z h.o h.l h.b=0:=ow;refine⟨?_,by simp[sw,ao],?_⟩
   .exact apm
   unfold Au;rw[if_neg ao,ae.o,B,Int.add_comm]
  have e0:=Qqq u0;have e1:=Qqq u1;have e2:=Qqq u2;have e3:=Qqq u3;by_cases V:c=i+1
  .go_wp2_with fail;refine sj (λw'=>∃p:Regrown,w'=grow (redrawn m p.d) p.os)
    ([0,1,2,3,5,6,7,8].map (λk=>(true,k))++[(false,4),(false,9),(false,10),(true,11),(false,12)]) ko ko ko ko (Qqx (brf.drew)) ?_
   refine au 0 rfl rfl ?_
   go_big_quiet_step(fail)
   refine Qqz ?_;refine au 1 rfl rfl ?_
   go_big_quiet_step(fail)
   refine Qqz ?_;refine au 2 rfl rfl ?_
   go_big_quiet_step(fail)
   refine Qqz ?_;refine au 3 rfl rfl ?_
   go_big_quiet_step(fail)
   refine Qqz ?_;refine au 5 rfl rfl ?_
   go_big_quiet_step(fail)
   refine Qqz ?_;refine au 6 rfl rfl ?_
   go_big_quiet_step(fail)
   refine Qqz ?_;refine au 7 rfl rfl ?_
   go_big_quiet_step(fail)
   refine Qqz ?_;refine au 8 rfl rfl ?_
   go_big_quiet_step(fail)
   refine Qqz ?_;refine fj 4 dc ?_;simp only[Qyq,Xqq,Qyx,Qyz];go_wp2_with fail;have D:Hid (Hs.At m ⟨some ⟨u,v,none⟩,i,i+1,z⟩):=⟨vq,atj,λj t=>Y.hds j (by have:j<i:=t;show j<n;omega),λh=>ix⟩;have E:Hid (Hs.At m ⟨some ⟨u,v,none⟩,n-(i+1),0,λj=>z (i+1+j)⟩):=⟨by show n-(i+1)<=0;omega,Qxz _,λj t=>by have:j<n-(i+1):=t;omega,λh=>ix⟩;have r:Bw m (m.alloc (.cells #[.int .i64 h.o,.int .i64 h.l,.int .i64 h.b,.int .i64 (h.n+(z i).n)] 107)).drew:=(brf.alloc nlr _).drew;have G:Bw m ((m.alloc (.cells #[.int .i64 h.o,.int .i64 h.l,.int .i64 h.b,.int .i64 (h.n+(z i).n)] 107)).alloc (.cells #[.slice (some ⟨u,v,none⟩) (i) (i+1),.slice (some ⟨m.heap.size,0,none⟩) 1 1,.slice (some ⟨u,v,none⟩) (n-(i+1)) (0)] 33)).drew:=((brf.alloc nlr _).alloc vq _).drew;refine⟨Qqx r,?_⟩;refine fj 9 dc ?_;simp only[Qyq,Xqq,Qyx,Qyz];go_wp2_with fail;refine⟨Qqx G,?_⟩;refine fj 10 dc ?_;simp only[Qyq,Xqq,Qyx,Qyz];go_wp2_with fail;refine(I9 ⟨some ⟨u,v,none⟩,i,i+1,z⟩ ⟨some ⟨u,v,none⟩,n-(i+1),0,λj=>z (i+1+j)⟩ ⟨h.o,h.l,h.b,h.n+(z i).n⟩ m (n) (ud z i ⟨h.o,h.l,h.b,h.n+(z i).n⟩) D.o E.o dy dy (by first|rfl|(dsimp only;omega)) ato).mono ?_;exact at5
  go_wp2_with fail;refine sj (λw'=>∃p:Regrown,w'=grow (redrawn m p.d) p.os)
   ([0,1,2,3,5,6,7,8].map (λk=>(true,k))++[(false,4),(false,9),(false,10),(true,11),(false,12)]) ko ko ko ko (Qqx (brf.drew)) ?_
  refine au 0 rfl rfl ?_
  go_big_quiet_step(fail)
  refine Qqz ?_;refine au 1 rfl rfl ?_
  go_big_quiet_step(fail)
  refine Qqz ?_;refine au 2 rfl rfl ?_
  go_big_quiet_step(fail)
  refine Qqz ?_;refine au 3 rfl rfl ?_
  go_big_quiet_step(fail)
  refine Qqz ?_;refine au 5 rfl rfl ?_
  go_big_quiet_step(fail)
  refine Qqz ?_;refine au 6 rfl rfl ?_
  go_big_quiet_step(fail)
  refine Qqz ?_;refine au 7 rfl rfl ?_
  go_big_quiet_step(fail)
  refine Qqz ?_;refine au 8 rfl rfl ?_
  go_big_quiet_step(fail)
  refine Qqz ?_;refine fj 4 dc ?_;simp only[Qyq,Xqq,Qyx,Qyz];go_wp2_with fail;have D:Hid (Hs.At m ⟨some ⟨u,v,none⟩,i,c,z⟩):=⟨aa3,am,λj t=>Y.hds j (by have:j<i:=t;show j<n;omega),λh=>ix⟩;have E:Hid (Hs.At m ⟨some ⟨u,v+(i+1)*4,none⟩,n-(i+1),c-(i+1),λj=>z (i+1+j)⟩):=⟨akd,akx,by
   have:=Y.hds.cut (c:=c) (i+1) (by show i+1<=n;omega) hn;rw[if_neg V,Go.WideShapes.add_plain] at this;exact this,λh=>ix⟩
  have r:Bw m (m.alloc (.cells #[.int .i64 h.o,.int .i64 h.l,.int .i64 h.b,.int .i64 (h.n+(z i).n)] 107)).drew:=(brf.alloc nlr _).drew;have G:Bw m ((m.alloc (.cells #[.int .i64 h.o,.int .i64 h.l,.int .i64 h.b,.int .i64 (h.n+(z i).n)] 107)).alloc (.cells #[.slice (some ⟨u,v,none⟩) (i) (c),.slice (some ⟨m.heap.size,0,none⟩) 1 1,.slice (some ⟨u,v+(i+1)*4,none⟩) (n-(i+1)) (c-(i+1))] 33)).drew:=((brf.alloc nlr _).alloc vq _).drew;refine⟨Qqx r,?_⟩;refine fj 9 dc ?_;simp only[Qyq,Xqq,Qyx,Qyz];go_wp2_with fail;refine⟨Qqx G,?_⟩;refine fj 10 dc ?_;simp only[Qyq,Xqq,Qyx,Qyz];go_wp2_with fail;refine(I9 ⟨some ⟨u,v,none⟩,i,c,z⟩ ⟨some ⟨u,v+(i+1)*4,none⟩,n-(i+1),c-(i+1),λj=>z (i+1+j)⟩ ⟨h.o,h.l,h.b,h.n+(z i).n⟩ m (n) (ud z i ⟨h.o,h.l,h.b,h.n+(z i).n⟩) D.o E.o dy dy (by first|rfl|(dsimp only;omega)) ato).mono ?_;exact at5
 obtain⟨B,_⟩:=fn hf;have hE:Hid (addE n z h=0/\sw n z h=n+1/\Au n z h=np z i h):=by
  show _/\_/\_;refine⟨?_,by simp[sw,B],by simp[Au,B,ae.o]⟩;exact apm
 have e0:=Qqq Q;have e1:=Qqq S;have e2:=Qqq T;have e3:=Qqq U;clear fy fn B Q S T U X;cases a with
 | none =>
  have az:c=0:=ab rfl;have a3:n=0:=ow;have a1:i=0:=ow;subst az a3 a1;go_wp2_with fail;refine sj (λw'=>∃p:Regrown,w'=grow (redrawn f p.d) p.os)
   ([0,1,2,3,5,6,7].map (λk=>(true,k))++[(false,4),(false,8),(false,9),(true,10),(false,11)]) ko ko ko ko (Qqx (brf.drew)) ?_
  refine au 0 rfl rfl ?_
  go_big_quiet_step(fail)
  refine Qqz ?_;refine au 1 rfl rfl ?_
  go_big_quiet_step(fail)
  refine Qqz ?_;refine au 2 rfl rfl ?_
  go_big_quiet_step(fail)
  refine Qqz ?_;refine au 3 rfl rfl ?_
  go_big_quiet_step(fail)
  refine Qqz ?_;refine au 5 rfl rfl ?_
  go_big_quiet_step(fail)
  refine Qqz ?_;refine au 6 rfl rfl ?_
  go_big_quiet_step(fail)
  refine Qqz ?_;refine au 7 rfl rfl ?_
  go_big_quiet_step(fail)
  refine Qqz ?_;refine fj 4 dc ?_;simp only[Qyq,Xqq,Qyx,Qyz];go_wp2_with fail;have D:Hid (Hs.At f ⟨none,0,0,z⟩):=(NA.o f).at;have E:Hid (Hs.At f ⟨none,0-0,0,λj=>z (0+j)⟩):=⟨Nat.le_refl _,Qxz _,λi hi=>absurd hi (Qzq _),λ_=>rfl⟩;have r:Bw f (f.alloc (.cells #[.int .i64 h.o,.int .i64 h.l,.int .i64 h.b,.int .i64 h.n] 107)).drew:=(brf.alloc nlr _).drew;have G:Bw f ((f.alloc (.cells #[.int .i64 h.o,.int .i64 h.l,.int .i64 h.b,.int .i64 h.n] 107)).alloc (.cells #[.slice (none) (0) (0),.slice (some ⟨f.heap.size,0,none⟩) 1 1,.slice (none) (0) (0)] 33)).drew:=((brf.alloc nlr _).alloc vq _).drew;refine⟨Qqx r,?_⟩;refine fj 8 dc ?_;simp only[Qyq,Xqq,Qyx,Qyz];go_wp2_with fail;refine⟨Qqx G,?_⟩;refine fj 9 dc ?_;simp only[Qyq,Xqq,Qyx,Qyz];go_wp2_with fail;refine(I9 ⟨none,0,0,z⟩ ⟨none,0-0,0,λj=>z (0+j)⟩ h f (0+1) (np z 0 h) D.o E.o dy dy (by first|rfl|(dsimp only;omega)) agu).mono ?_;exact ag6
 | some ad =>
  by_cases V:c=i;rotate_left
  .go_wp2_with fail;refine sj (λw'=>∃p:Regrown,w'=grow (redrawn f p.d) p.os)
    ([0,1,2,3,5,6,7].map (λk=>(true,k))++[(false,4),(false,8),(false,9),(true,10),(false,11)]) ko ko ko ko (Qqx (brf.drew)) ?_
   refine au 0 rfl rfl ?_
   go_big_quiet_step(fail)
   refine Qqz ?_;refine au 1 rfl rfl ?_
   go_big_quiet_step(fail)
   refine Qqz ?_;refine au 2 rfl rfl ?_
   go_big_quiet_step(fail)
   refine Qqz ?_;refine au 3 rfl rfl ?_
   go_big_quiet_step(fail)
   refine Qqz ?_;refine au 5 rfl rfl ?_
   go_big_quiet_step(fail)
   refine Qqz ?_;refine au 6 rfl rfl ?_
   go_big_quiet_step(fail)
   refine Qqz ?_;refine au 7 rfl rfl ?_
   go_big_quiet_step(fail)
   refine Qqz ?_;refine fj 4 dc ?_;simp only[Qyq,Xqq,Qyx,Qyz];go_wp2_with fail;have D:Hid (Hs.At f ⟨some ad,i,c,z⟩):=⟨aa3,am,λj t=>HZ.hds j (by have:j<i:=t;show j<n;omega),λh=>ix⟩;have E:Hid (Hs.At f ⟨some (ad.add (i*4)),n-i,c-i,λj=>z (i+j)⟩):=⟨by show n-i<=c-i;omega,by show c-i<=maxLen;omega,by
    have:=HZ.hds.cut (c:=c) i a4 hn;rw[if_neg V] at this;exact this,λh=>ix⟩
   have r:Bw f (f.alloc (.cells #[.int .i64 h.o,.int .i64 h.l,.int .i64 h.b,.int .i64 h.n] 107)).drew:=(brf.alloc nlr _).drew;have G:Bw f ((f.alloc (.cells #[.int .i64 h.o,.int .i64 h.l,.int .i64 h.b,.int .i64 h.n] 107)).alloc (.cells #[.slice (some ad) (i) (c),.slice (some ⟨f.heap.size,0,none⟩) 1 1,.slice (some (ad.add (i*4))) (n-i) (c-i)] 33)).drew:=((brf.alloc nlr _).alloc vq _).drew;refine⟨Qqx r,?_⟩;refine fj 8 dc ?_;simp only[Qyq,Xqq,Qyx,Qyz];go_wp2_with fail;refine⟨Qqx G,?_⟩;refine fj 9 dc ?_;simp only[Qyq,Xqq,Qyx,Qyz];go_wp2_with fail;refine(I9 ⟨some ad,i,c,z⟩ ⟨some (ad.add (i*4)),n-i,c-i,λj=>z (i+j)⟩ h f (n+1) (np z i h) D.o E.o dy dy (by first|rfl|(dsimp only;omega)) agu).mono ?_;exact ag6
  have a2:n=i:=ow;subst a2;subst V;go_wp2_with fail;refine sj (λw'=>∃p:Regrown,w'=grow (redrawn f p.d) p.os)
   ([0,1,2,3,5,6,7].map (λk=>(true,k))++[(false,4),(false,8),(false,9),(true,10),(false,11)]) ko ko ko ko (Qqx (brf.drew)) ?_
  refine au 0 rfl rfl ?_
  go_big_quiet_step(fail)
  refine Qqz ?_;refine au 1 rfl rfl ?_
  go_big_quiet_step(fail)
  refine Qqz ?_;refine au 2 rfl rfl ?_
  go_big_quiet_step(fail)
  refine Qqz ?_;refine au 3 rfl rfl ?_
  go_big_quiet_step(fail)
  refine Qqz ?_;refine au 5 rfl rfl ?_
  go_big_quiet_step(fail)
  refine Qqz ?_;refine au 6 rfl rfl ?_
  go_big_quiet_step(fail)
  refine Qqz ?_;refine au 7 rfl rfl ?_
  go_big_quiet_step(fail)
  refine Qqz ?_;refine fj 4 dc ?_;simp only[Qyq,Xqq,Qyx,Qyz];go_wp2_with fail;have D:=hid HZ;have E:Hid (Hs.At f ⟨some ad,c-c,0,λj=>z (c+j)⟩):=⟨vq,Qxz _,λi hi=>by have:i<c-c:=hi;omega,λh=>ix⟩;have r:Bw f (f.alloc (.cells #[.int .i64 h.o,.int .i64 h.l,.int .i64 h.b,.int .i64 h.n] 107)).drew:=(brf.alloc nlr _).drew;have G:Bw f ((f.alloc (.cells #[.int .i64 h.o,.int .i64 h.l,.int .i64 h.b,.int .i64 h.n] 107)).alloc (.cells #[.slice (some ad) (c) (c),.slice (some ⟨f.heap.size,0,none⟩) 1 1,.slice (some ad) (0) (0)] 33)).drew:=((brf.alloc nlr _).alloc vq _).drew;refine⟨Qqx r,?_⟩;refine fj 8 dc ?_;simp only[Qyq,Xqq,Qyx,Qyz];go_wp2_with fail;refine⟨Qqx G,?_⟩;refine fj 9 dc ?_;simp only[Qyq,Xqq,Qyx,Qyz];go_wp2_with fail;refine(I9 ⟨some ad,c,c,z⟩ ⟨some ad,0,0,λj=>z (c+j)⟩ h f (c+1) (np z c h) D.o (by have:=E.o;rwa[Nat.sub_self] at this) dy dy (by first|rfl|(dsimp only;omega)) agu).mono ?_;exact ag6
def Dj(x:Hd):Prop:=(0<=x.o/\x.o<=3)/\(0<=x.l/\x.l<=2)/\(0<=x.b/\x.b<=5)
theorem Rz{x:Hd}(h:il x=true):Dj x:=⟨(cw h).1,(cw h).2.1,(cw h).2.2.1⟩
theorem Eg(x:Hd)(w:World)(h:Dj x):
  Calls prog 162 #[x.val] w λe w'=>e = .returned (.int .i64 (bj x))/\Bw w w':=by
 unfold Dj at h;exact anp
theorem Kx(w:World)(x:Hd)(t:TypeId):∀j u,(dt x)[j]?=some u->(w.alloc (.cells #[.int .i64 x.o,.int .i64 x.l,.int .i64 x.b,.int .i64 x.n] t)).cell? ((⟨w.heap.size,0,none⟩:Addr).add j)=some u:=by
 intro j u a;rw[Go.WideShapes.add_plain];have c:j<4:=by
  have:=(List.getElem?_eq_some_iff.1 a).1
  simpa[dt] using this
 have e:Blk (w.alloc (.cells #[.int .i64 x.o,.int .i64 x.l,.int .i64 x.b,.int .i64 x.n] t)) w.heap.size t 4 (λj=>(#[.int .i64 x.o,.int .i64 x.l,.int .i64 x.b,.int .i64 x.n]:Array Value).getD j default):=Blk.mk' rfl rfl;rw[Nat.zero_add,e.cell c];have d:j=0\/j=1\/j=2\/j=3:=ow;rcases d with rfl|rfl|rfl|rfl<;>(simp[dt] at a;rw[<-a];rfl)
theorem Ib(x:Hd):∀u∈dt x,u.oneCell'=true:=by
 intro u a;simp[dt] at a;rcases a with rfl|rfl|rfl|rfl<;>rfl
theorem ky{base:Nat}{size:Nat}(h:w.ownsRow base e size v n xs)(a:Bw w w'):w'.ownsRow base e size v n xs :=
 h.kept (row:=none) ⟨a.os,a.tape,a.output,a.size,λj b _=>a.block j b⟩ (by cases h:v.ownBlock<;>simp)
theorem Ay(h:∃p:Regrown,w'=grow (redrawn w p.d) p.os):Bw w w':=by
 obtain⟨p,rfl⟩:=h;exact Qxx _ _ _
def wA(h:Hd)(d:Bool)(x:Hd):Bool := !d&&decide (bj h<=bj x)
def la(h:Hd)(z:Nat->Hd):Nat->List Hd × Bool
 | 0=>([],h.n==0)
 | k+1=>((la h z k).1++(if wA h (la h z k).2 (z k) then [h] else [])++(if bj (z k) !=bj h then [z k] else []),(la h z k).2||wA h (la h z k).2 (z k))
def Qg(h:Hd)(n:Nat)(z:Nat->Hd):List Hd:=if (la h z n).2 then(la h z n).1 else(la h z n).1++[h]
def Om(l:List Hd):List Value:=l.flatMap dt
theorem Fk(l:List Hd)(x:Hd):Om (l++[x])=Om l++dt x:=by simp[Om]
theorem afx{a:Nat}{size:Nat}(h:w.ownsRow A e size v n xs)(hA:a<=A):w.ownsRow a e size v n xs :=
 ⟨h.1,h.2.imp_right λ⟨g,cap,cur,h1,h2,h3⟩=>⟨g,cap,cur,h1,Qzx hA h2,h3⟩⟩
theorem acn(h:Hd)(z:Nat->Hd):∀k,(la h z k).1.length<=2*k
 | 0=>Nat.le_refl _
 | k+1=>by
  have:=acn h z k;rw[la];simp only[List.length_append]
  split<;>split<;>simp<;>omega
theorem ar2(s:Hs)(h:Hd)(w:World)(hs:s.At w)(hr:aw s.n (df s.z)=false)(ak:Dj h):
  Calls prog 108 #[s.val,.int .i64 h.o,.int .i64 h.l,.int .i64 h.b,.int .i64 h.n] w λe w'=>∃v,e = .returned v/\w'.ownsRow w.heap.size 107 4 v (Qg h s.n s.z).length (Om (Qg h s.n s.z))/\Bw w w':=by
 have ai:=zv hr;have HF:Hid (∀j,j<s.n->Dj (s.z j)):=λj hj=>Rz (cd hr j hj);clear hr;obtain⟨i0,hi,al,am,an⟩:=info_parts P5;obtain⟨W0,hW,ab,K0⟩:∃W,w.alloc (.cells #[.int .i64 h.o,.int .i64 h.l,.int .i64 h.b,.int .i64 h.n] 107)=W/\Bw w W/\Blk W w.heap.size 107 4 (λj=>(#[.int .i64 h.o,.int .i64 h.l,.int .i64 h.b,.int .i64 h.n]:Array Value).getD j default):=⟨_,rfl,brf.alloc nlr _,Blk.mk' rfl rfl⟩;have HW:=hid hW;have V:=hid ak;have Y:Hid (∀w1,Bw W0 w1->w1.cell? ⟨w.heap.size,0,none⟩=some (.int .i64 h.o)/\w1.cell? ⟨w.heap.size,0+1,none⟩=some (.int .i64 h.l)/\w1.cell? ⟨w.heap.size,0+2,none⟩=some (.int .i64 h.b)/\w1.cell? ⟨w.heap.size,0+3,none⟩=some (.int .i64 h.n)):=λw1 F=>⟨(K0.below F).k 0,(K0.below F).k 1,(K0.below F).k 2,(K0.below F).k 3⟩;have HS:Hid (∀w1,Bw W0 w1->s.At w1/\Bw w w1):=λw1 F=>⟨(hs.below ab).below F,ab.trans (F.mono ab.size)⟩;have a0:=hid ab.size;have bi:=hs.le;have az:=hs.cap;unfold maxLen at az;clear hW ab K0 hs ak;obtain⟨a,n,c,z⟩:=s;dsimp only at *;simp only[Hs.val];go_enter func108,ntmps108;go_wp2_with fail;rw[HW.o];clear HW
 go_loopw [12,13,14] (λv dn i wk=>∃k:Nat,k<=n/\i = .int .i64 k/\dn = .bool (la h z k).2/\wk.ownsRow W0.heap.size 107 4 v (la h z k).1.length (Om (la h z k).1)/\Bw W0 wk) (λ_ _ i _=>n-(intOf i).toNat)
 case atStart=>exact⟨0,Qxz _,rfl,rfl,World.ownsRow_nil _ _ _ _,Below.refl _ _⟩
 obtain⟨k,hk,rfl,rfl,own,hB⟩:=hrel;have T:Hid ((la h z k).1.length<=2*k):=acn h z k;by_cases aj:k<n;rotate_left
 .have a4:k=n:=ow;subst a4;have q1:¬(k:Int)<(k:Int):=ow;have HB:Hid (Bw w wr):=(HS.o wr hB).2;have HA:Hid (Qg h k z=if (la h z k).2 then(la h z k).1 else(la h z k).1++[h]):=rfl
  generalize (la h z k).1=L at *
  generalize (la h z k).2=D at *
  cases D
  .obtain⟨r,f,g,m⟩:=Y.o wr hB;simp only[Nat.zero_add] at f g m;go_wp2_with(at_builtin;refine wpList_append_own _ rfl (.tmp 61) (.tmp 63) 33 rfl W0.heap.size 107 i0 (.agg #[.int .i64 0,.int .i64 0,.int .i64 0,.int .i64 0]) 4 32 underlying33 hi al am an rfl dc _ _ _ rfl (World.ownsRow.alloc own _) ⟨wr.heap.size,0,none⟩ 1 1 (dt h) rfl rfl (Kx _ _ _) (Ib _) (by have:=T.o;have:=ai;unfold maxLen;omega) (by have:=T.o;have:=ai;omega) Ek ?_;intro v2 wb p S ac);have hB:=(hB.alloc hB.size _).grown S Ek (λq d=>(World.ownsRow.lt own q d).1);rw[<-Fk,show ∀l:List Hd,l.length+1=(l++[h]).length from λl=>by simp] at p;have own:=p;clear r f g m S ac p;go_wp2_with fail;go_ret;exact⟨_,rfl,ati,(HS.o _ hB).2⟩
  go_wp2_with fail;go_ret;exact⟨_,rfl,ati,HB.o⟩
 have X:Hid (Dj (z k)):=HF.o k aj;obtain⟨bb,oo,ha,bh,-⟩:=(HS.o wr hB).1.hds k aj;subst ha;have HK:Hid (∀w1,Bw W0 w1->w1.cell? ⟨bb,oo+k*4,none⟩=some (.int .i64 (z k).o)/\w1.cell? ⟨bb,oo+k*4+1,none⟩=some (.int .i64 (z k).l)/\w1.cell? ⟨bb,oo+k*4+2,none⟩=some (.int .i64 (z k).b)/\w1.cell? ⟨bb,oo+k*4+3,none⟩=some (.int .i64 (z k).n)):=λw1 F=>by
  obtain⟨b',o',he,-,q0,q1,q2,q3⟩:=(HS.o w1 F).1.hds k aj;simp only[co] at he;obtain⟨rfl,rfl⟩:=he;exact⟨q0,q1,q2,q3⟩
 have m1:(0:Int)<=(k:Int):=ow;have m2:(k:Int)<(n:Int):=ow;have HO:Hid (la h z (k+1)=((la h z k).1++(if wA h (la h z k).2 (z k) then [h] else [])++(if bj (z k) !=bj h then [z k] else []),(la h z k).2||wA h (la h z k).2 (z k))):=rfl;have af:Hid (k<=72):=by show _<=_;omega
 generalize (la h z k).1=L at *
 generalize (la h z k).2=D at *
 cases D;rotate_left
 .have U:Hid (la h z (k+1)=(L++(if bj (z k) !=bj h then [z k] else []),true)):=by show _=_;rw[HO.o,show wA h true (z k)=false from rfl];simp
  clear HO;obtain⟨r,f,g,m⟩:=Y.o wr hB;obtain⟨G,t,u,x⟩:=jd r f g m;simp only[Nat.zero_add] at f g m t u x;obtain⟨y,A,B,E⟩:=HK.o wr hB;obtain⟨H,J,K,M⟩:=jd y A B E;go_wp2_with fail;refine Qxq ko ko ?_
  repeat(go_big_quiet_step((go_at_call 162;exact Xxz (Eg _ _ (by first|exact X.o|exact V.o)))))
  refine Qqz ?_;intro wb d;have d:=Ay d;have hB:=hB.trans (d.mono hB.size);have own:=ky own d;clear r f g m G t u x y A B E H J K M;clear d;cases hc:(bj (z k) !=bj h)
  .have Q:Hid (la h z (k+1)=(L,true)):=Jn;exact ag4
  have Q:Hid (la h z (k+1)=(L++[z k],true)):=Jn;exact arw
 by_cases F:bj h<=bj (z k);rotate_left
 .have g1:decide (bj h<=bj (z k))=false:=decide_eq_false F;have U:Hid (la h z (k+1)=(L++(if bj (z k) !=bj h then [z k] else []),false)):=by show _=_;rw[HO.o,show wA h false (z k)=false from by simp[wA,F]];simp
  clear HO;clear F;obtain⟨r,f,g,m⟩:=Y.o wr hB;obtain⟨G,t,u,x⟩:=jd r f g m;simp only[Nat.zero_add] at f g m t u x;obtain⟨y,A,B,E⟩:=HK.o wr hB;obtain⟨H,J,K,M⟩:=jd y A B E;go_wp2_with fail;refine Qxq ko ko ?_
  repeat(go_big_quiet_step((go_at_call 162;exact Xxz (Eg _ _ (by first|exact X.o|exact V.o)))))
  refine Qqz ?_;intro wb d;have d:=Ay d;have hB:=hB.trans (d.mono hB.size);have own:=ky own d;clear r f g m G t u x y A B E H J K M;clear d;clear g1;cases hc:(bj (z k) !=bj h)
  .have Q:Hid (la h z (k+1)=(L,false)):=Jn;exact ag4
  have Q:Hid (la h z (k+1)=(L++[z k],false)):=Jn;exact arw
 have g1:decide (bj h<=bj (z k))=true:=decide_eq_true F;have U:Hid (la h z (k+1)=((L++[h])++(if bj (z k) !=bj h then [z k] else []),true)):=by show _=_;rw[HO.o,show wA h false (z k)=true from by simp[wA,F]];simp
 clear HO;clear F;obtain⟨r,f,g,m⟩:=Y.o wr hB;obtain⟨G,t,u,x⟩:=jd r f g m;simp only[Nat.zero_add] at f g m t u x;obtain⟨y,A,B,E⟩:=HK.o wr hB;obtain⟨H,J,K,M⟩:=jd y A B E;go_wp2_with fail;refine Qxq ko ko ?_
 repeat(go_big_quiet_step((go_at_call 162;exact Xxz (Eg _ _ (by first|exact X.o|exact V.o)))))
 refine Qqz ?_;intro wa d;have d:=Ay d;have hB:=hB.trans (d.mono hB.size);have own:=ky own d;clear r f g m G t u x y A B E H J K M;clear d;obtain⟨r,f,g,m⟩:=Y.o wa hB;obtain⟨G,t,u,x⟩:=jd r f g m;simp only[Nat.zero_add] at f g m t u x;obtain⟨y,A,B,E⟩:=HK.o wa hB;obtain⟨H,J,K,M⟩:=jd y A B E;go_wp2_with(at_builtin;refine wpList_append_own _ rfl (.tmp 40) (.tmp 42) 33 rfl W0.heap.size 107 i0 (.agg #[.int .i64 0,.int .i64 0,.int .i64 0,.int .i64 0]) 4 32 underlying33 hi al am an rfl dc _ _ _ rfl (World.ownsRow.alloc own _) ⟨wa.heap.size,0,none⟩ 1 1 (dt h) rfl rfl (Kx _ _ _) (Ib _) (by have:=T.o;have:=af.o;unfold maxLen;omega) (by have:=T.o;have:=af.o;omega) Ek ?_;intro v2 wb p S ac);have hB:=(hB.alloc hB.size _).grown S Ek (λq d=>(World.ownsRow.lt own q d).1);rw[<-Fk,show ∀l:List Hd,l.length+1=(l++[h]).length from λl=>by simp] at p;have own:=p;clear r f g m G t u x y A B E H J K M;clear S ac p g1;cases hc:(bj (z k) !=bj h)
 .have Q:Hid (la h z (k+1)=((L++[h]),true)):=Jn;exact ag4
 have Q:Hid (la h z (k+1)=((L++[h])++[z k],true)):=Jn;exact arw
def Ai(k:Nat)(f:Nat->Hd):List Hd:=(List.range k).map f
theorem tx(k:Nat)(f:Nat->Hd):Ai (k+1) f=Ai k f++[f k]:=by simp[Ai,List.range_succ]
theorem ai9(k:Nat)(f:Nat->Hd):(Ai k f).length=k:=by simp[Ai]
theorem Rn(f:Nat->Hd):∀k,Om (Ai k f)=ba k f
 | 0=>rfl
 | k+1=>by rw[tx,Fk,Rn f k,vj]
theorem ap4{x:Hd}(e:bj h<=bj x):wA h false x=true:=by simp[wA,e]
theorem avn{x:Hd}(e:bj x<bj h):wA h false x=false:=by simp[wA];omega
theorem Ut(h x:Hd):wA h true x=false:=rfl
theorem Oa{k:Nat}{L:List Hd}{D:Bool}(e:la h z k=(L,D)):la h z (k+1)=(L++(if wA h D (z k) then [h] else [])++(if bj (z k) !=bj h then [z k] else []),D||wA h D (z k)):=by rw[la,e]
theorem aco{h:Hd}{z:Nat->Hd}{n p:Nat}(b:∀j,j<p->bj (z j)<bj h)(a:∀j,p<j->j<n->bj h<bj (z j))(e:bj (z p)=bj h)(d:¬h.n=0):∀k,k<=n->la h z k=(Ai k (ud z p h),decide (p<k))
 | 0,_=>by simp[la,Ai,d]
 | k+1,hk=>by
  rw[Oa (aco b a e d k ow),tx];unfold ud;rcases Nat.lt_trichotomy k p with c|c|c
  .have:=b k c;rw[decide_eq_false (ow:¬p<k),decide_eq_false (ow:¬p<k+1),avn this,if_neg (ow:¬k=p),if_pos (oq:(bj (z k) !=bj h)=true)];simp
  .subst c;rw[decide_eq_false (ow:¬k<k),decide_eq_true (ow:k<k+1),ap4 ow,if_pos (rfl:k=k),if_neg (oq:¬(bj (z k) !=bj h)=true)];simp
  have:=a k c ow;rw[decide_eq_true c,decide_eq_true (ow:p<k+1),Ut,if_neg (ow:¬k=p),if_pos (oq:(bj (z k) !=bj h)=true)];simp
theorem acm{h:Hd}{z:Nat->Hd}{n p:Nat}(d:∀j,j<p->bj (z j)<bj h)(b:∀j,p<j->j<n->bj h<bj (z j))(a:p<n->bj h<bj (z p))(e:¬h.n=0):∀k,k<=n->la h z k=(Ai (if k<=p then k else k+1) (np z p h),decide (p<k))
 | 0,_=>by simp[la,Ai,e]
 | k+1,hk=>by
  rw[Oa (acm d b a e k ow)];rcases Nat.lt_trichotomy k p with c|c|c
  .have:=d k c;rw[decide_eq_false (ow:¬p<k),decide_eq_false (ow:¬p<k+1),avn this,if_pos (ow:k<=p),if_pos (ow:k+1<=p),tx,show np z p h k=z k by unfold np;rw[if_pos c],if_pos (oq:(bj (z k) !=bj h)=true)];simp
  .subst c;have:=a ow;rw[decide_eq_false (ow:¬k<k),decide_eq_true (ow:k<k+1),ap4 ow,if_pos (Nat.le_refl k),if_neg (ow:¬k+1<=k),tx,tx,show np z k h k=h by unfold np;rw[if_neg ow,if_pos rfl],show np z k h (k+1)=z k by unfold np;rw[if_neg ow,if_neg ow];rfl,if_pos (oq:(bj (z k) !=bj h)=true)];simp
  have:=b k c ow;rw[decide_eq_true c,decide_eq_true (ow:p<k+1),Ut,if_neg (ow:¬k<=p),if_neg (ow:¬k+1<=p),tx (k+1),show np z p h (k+1)=z k by unfold np;rw[if_neg ow,if_neg ow];rfl,if_pos (oq:(bj (z k) !=bj h)=true)];simp
theorem Wb{h:Hd}{z:Nat->Hd}{n p:Nat}(b:∀j,j<p->bj (z j)<bj h)(a:∀j,p<j->j<n->bj h<bj (z j))(e:bj (z p)=bj h)(d:h.n=0):∀k,k<=n->la h z k=(Ai (if k<=p then k else k-1) (gu z p),true)
 | 0,_=>by simp[la,Ai,d]
 | k+1,hk=>by
  rw[Oa (Wb b a e d k ow),Ut];rcases Nat.lt_trichotomy k p with c|c|c
  .have:=b k c;rw[if_pos (ow:k<=p),if_pos (ow:k+1<=p),tx,show gu z p k=z k by unfold gu;rw[if_pos c],if_pos (oq:(bj (z k) !=bj h)=true)];simp
  .subst c;rw[if_pos (Nat.le_refl k),if_neg (ow:¬k+1<=k),if_neg (oq:¬(bj (z k) !=bj h)=true)];simp
  have:=a k c ow;obtain⟨m,rfl⟩:∃m,k=m+1:=⟨k-1,ow⟩;rw[if_neg (ow:¬m+1<=p),if_neg (ow:¬m+1+1<=p),Nat.add_sub_cancel,Nat.add_sub_cancel,tx m,show gu z p m=z (m+1) by unfold gu;rw[if_neg ow],if_pos (oq:(bj (z (m+1)) !=bj h)=true)];simp
theorem Qh{s:Hs}{f:Nat->Hd}(e:Qg h s.n s.z=Ai m f)(hs:s.At w)(j:aw s.n (df s.z)=false)(c:Dj h):
  Calls prog 108 #[s.val,.int .i64 h.o,.int .i64 h.l,.int .i64 h.b,.int .i64 h.n] w λe w'=>∃a:Hs,e = .returned a.val/\ct w.heap.size 107 w' a/\a.n=m/\a.z=f/\Bw w w':=by
 refine(ar2 s h w hs j c).mono λe' w' ⟨v,h1,h2,h3⟩=> ?_;rw[e,ai9,Rn] at h2;obtain⟨a,d,g,i,e4⟩:=ct.ofRow h2 nlr;exact⟨a,by rw[h1,d],g,i,e4,h3⟩
theorem Wc(s:Hs)(h:Hd)(p:Nat)(w:World)(hs:s.At w)(m:aw s.n (df s.z)=false)(c:Dj h)(k:p<s.n)(d:bj (s.z p)=bj h)(i:¬h.n=0)(g:∀j,j<p->bj (s.z j)<bj h)(f:∀j,p<j->j<s.n->bj h<bj (s.z j)):
  Calls prog 108 #[s.val,.int .i64 h.o,.int .i64 h.l,.int .i64 h.b,.int .i64 h.n] w λe w'=>∃a:Hs,e = .returned a.val/\ct w.heap.size 107 w' a/\a.n=s.n/\a.z=ud s.z p h/\Bw w w' :=
 Qh (by unfold Qg;rw[aco g f d i s.n nlr,decide_eq_true k];rfl) hs m c
theorem ap7(s:Hs)(h:Hd)(p:Nat)(w:World)(hs:s.At w)(q:aw s.n (df s.z)=false)(d:Dj h)(r:p<=s.n)(f:p<s.n->bj h<bj (s.z p))(m:¬h.n=0)(i:∀j,j<p->bj (s.z j)<bj h)(g:∀j,p<j->j<s.n->bj h<bj (s.z j)):
  Calls prog 108 #[s.val,.int .i64 h.o,.int .i64 h.l,.int .i64 h.b,.int .i64 h.n] w λe w'=>∃a:Hs,e = .returned a.val/\ct w.heap.size 107 w' a/\a.n=s.n+1/\a.z=np s.z p h/\Bw w w' :=
 Qh (by
  unfold Qg;rw[acm i g f m s.n nlr];by_cases c:p<s.n
  .rw[decide_eq_true c,if_neg (ow:¬s.n<=p)];rfl
  have k:p=s.n:=ow;subst k;rw[decide_eq_false ow,if_pos nlr,tx,show np s.z s.n h s.n=h by unfold np;rw[if_neg ow,if_pos rfl]]
  rfl) hs q d
theorem Tp(s:Hs)(h:Hd)(p:Nat)(w:World)(hs:s.At w)(k:aw s.n (df s.z)=false)(c:Dj h)(m:p<s.n)(d:bj (s.z p)=bj h)(i:h.n=0)(g:∀j,j<p->bj (s.z j)<bj h)(f:∀j,p<j->j<s.n->bj h<bj (s.z j)):
  Calls prog 108 #[s.val,.int .i64 h.o,.int .i64 h.l,.int .i64 h.b,.int .i64 h.n] w λe w'=>∃a:Hs,e = .returned a.val/\ct w.heap.size 107 w' a/\a.n=s.n-1/\a.z=gu s.z p/\Bw w w' :=
 Qh (by unfold Qg;rw[Wb g f d i s.n nlr,if_neg (ow:¬s.n<=p)];rfl) hs k c
theorem uu{o l b:Int}(g:aw n (df z)=false)(i:¬keptV n z o l b=0):
  jy n z o l b<n/\bq (z (jy n z o l b)) o l b=true/\keptV n z o l b=(z (jy n z o l b)).n/\(∀j,j<jy n z o l b->bj (z j)<bj (z (jy n z o l b)))/\(∀j,jy n z o l b<j->j<n->bj (z (jy n z o l b))<bj (z j)):=by
 rcases uj n z o l b with h|⟨k,a,e,c⟩
 .exact absurd (lq h) i
 rw[Kf a e c];exact⟨a,c,oy a e c,λj d=>re g j k d a,λj d f=>re g k j d f⟩
theorem H9{x:Hd}{o l b n:Int}(h:bq x o l b=true):bj x=bj ⟨o,l,b,n⟩:=by
 have a:=fq h;simp[bj,a]
theorem ajd{x:Hd}{o l b n:Int}(h:bq x o l b=true)(hx:il x=true):Dj ⟨o,l,b,n⟩:=by
 have a:=fq h;have r:=Rz hx;unfold Dj at r ⊢;rw[a.1,a.2.1,a.2.2] at r;exact r
def oe(ops:Array Oper)(i:Nat):List Nat:=match ops[i]? with
 | none=>[]
 | some o=>(o.after.toList.filter (λe=>Region.binds .any e)).map (λe=>e.on)
def lj(listed:Array Bool):List Nat->Array Bool
 | []=>listed
 | i :: r=>lj (listed.setIfInBounds i true) r
def C9(ops:Array Oper):List Nat->Array Bool->Bool
 | [],_=>true
 | i :: r,listed=>(Region.ready .any ops listed).contains i&&Region.free .any ops listed i&&C9 ops r (listed.setIfInBounds i true)
def Xm(ops:Array Oper)(L:Array Bool):List Nat->List Nat->Bool
 | _,[]=>true
 | seen,i :: r=>(oe ops i).all (λd=>L.getD d false||seen.contains d)&&Xm ops L (i :: seen) r
def xt(ops:Array Oper)(i:Nat):Option Tmp:=match ops[i]? with
 | none=>none
 | some o=>o.dst
theorem Vw:∀(l:List Nat) (a:Array Bool),(lj a l).size=a.size
 | [],_=>rfl
 | i :: r,a=>by rw[lj,Vw r];simp
theorem Ze:∀(l:List Nat) (a:Array Bool) (j:Nat),j<a.size->(lj a l)[j]?=if j∈l then some true else a[j]?
 | [],a,j,_=>by simp[lj]
 | i :: r,a,j,hj=>by
  rw[lj,Ze r _ j Jv,Array.getElem?_setIfInBounds];by_cases b:j∈r
  .simp[b]
  by_cases c:i=j
  .subst c;simp[b,hj]
  have d:¬j=i:=λe=>c e.symm;simp[b,c,d]
def dz(ops:Array Oper)(rem:List Nat)(V:Nat->Value)(a:Act):Act:=match rem with
 | []=>a
 | i :: r=>dz ops r V (a.put (xt ops i) (V i))
theorem ard(a:Act)(d:Option Tmp):a.put d (match d with|some d=>a.tmps.getD d undef|none=>undef)=a:=by
 cases d with
 | none=>rfl
 | some d =>
  cases a with
  | mk tmps defers =>
   simp only[Act.put]
   congr 1
   apply Array.ext_getElem?
   intro i;rw[Array.getElem?_setIfInBounds];by_cases h:d=i
   .subst h;by_cases b:d<tmps.size
    .simp[b,Array.getD]
    simp[b]
   simp[h]
theorem awl(a:Act)(d:Option Tmp)(u v:Value):(a.put d u).put d v=a.put d v:=by
 cases d with
 | none=>rfl
 | some d =>
  simp only[Act.put]
  congr 1
  apply Array.ext_getElem?
  intro i;simp only[Array.getElem?_setIfInBounds,Array.size_setIfInBounds];by_cases h:d=i<;>simp[h]
theorem are(a:Act){d b:Option Tmp}(u v:Value)(h:d≠b):(a.put d u).put b v=(a.put b v).put d u:=by
 cases d with
 | none=>rfl
 | some d=>cases b with
  | none=>rfl
  | some b =>
   have g:d≠b:=λe=>h (by rw[e]);simp only[Act.put]
   congr 1
   apply Array.ext_getElem?
   intro i;simp only[Array.getElem?_setIfInBounds,Array.size_setIfInBounds];by_cases c:d=i
   .have f:¬b=i:=λe=>g (c.trans e.symm);simp[c,f]
   by_cases f:b=i<;>simp[c,f]
def upd(V:Nat->Value)(i:Nat)(v:Value)(j:Nat):Value:=if j=i then v else V j
theorem Nh{c:Array Oper}:∀{b:List Nat} {V d:Nat->Value} {a:Act},(∀j∈b,V j=d j)->dz c b V a=dz c b d a
 | [],_,_,_,_=>rfl
 | i :: r,V,d,a,h=>by
  rw[dz,dz,h i vq];exact Nh λj hj=>h j He
theorem Po{b:Array Oper}{d:Option Tmp}{v:Value}:∀{c:List Nat} {V:Nat->Value} {a:Act},d ∉ c.map (xt b)->dz b c V (a.put d v)=(dz b c V a).put d v
 | [],_,_,_=>rfl
 | i :: r,V,a,h=>by
  simp only[List.map_cons,List.mem_cons,not_or] at h;rw[dz,dz,are a _ _ h.1];exact Po h.2
theorem Lg{b:Array Oper}{i:Nat}{v:Value}:∀{c:List Nat} {V:Nat->Value} {a:Act},(c.map (xt b)).Nodup->i∈c->(dz b c V a).put (xt b i) v=dz b c (upd V i v) a
 | [],_,_,_,hi=>by simp at hi
 | k :: r,V,a,hn,hi=>by
  simp only[List.map_cons,List.nodup_cons] at hn;rw[dz,dz];by_cases f:k=i
  .subst f;have l:k ∉ r:=λh=>hn.1 (List.mem_map.2 ⟨k,h,rfl⟩);rw[<-Po hn.1,awl];have d:upd V k v k=v:=if_pos rfl;rw[d];exact Nh λj m=>(if_neg (λe:j=k=>l (by rw[<-e];exact m))).symm
  have d:upd V i v k=V k:=if_neg f;rw[d];have g:i∈r:=by
   rcases List.mem_cons.1 hi with h|h
   .exact absurd h.symm f
   exact h
  exact Lg hn.2 g
theorem A8{b:Array Oper}(a:Act):∀(c:List Nat),dz b c (λi=>match xt b i with|some d=>a.tmps.getD d undef|none=>undef) a=a
 | []=>rfl
 | i :: r=>by
  rw[dz,ard];exact A8 a r
theorem ai{P:Program}{l:List Oper}{K:Act->World->Prop}(k:Nat){o:Oper}{a:Act}(b:l[k]?=some o)
  (h:wpList P l.toArray (Exit.then K Q) [o] a w):wpOp P l.toArray Q k K a w:=by
 unfold wpOp;simp only[Qvz,b];exact au8
theorem Fw{b:Array Oper}{L a:Array Bool}(k:a.size=b.size):∀(seen c:List Nat),Xm b L seen c=true->(∀d,L.getD d false=true->a.getD d false=true)->(∀d∈seen,a.getD d false=true) ->
  (∀r∈c,r<b.size)->(∃r∈c,a.getD r true=false)->∃r∈c,r∈Region.ready .any b a
 | _,[],_,_,_,_,h=>by obtain⟨r,t,_⟩:=h;simp at t
 | seen,i :: r,hT,hL,hs,hlt,h=>by
  simp only[Xm,Xxx] at hT;by_cases hi:a.getD i true=false
  .refine⟨i,vq,mem_ready.2 ⟨hi,b[i]'(hlt i vq),by simp[hlt i vq],λe p o => ?_⟩⟩;have hd:e.on∈oe b i:=by
    unfold oe;simp only[Array.getElem?_eq_getElem (hlt i vq)];exact List.mem_map.2 ⟨e,List.mem_filter.2 ⟨by simpa using p,o⟩,rfl⟩
   have:=List.all_eq_true.1 hT.1 _ hd;simp only[Bool.or_eq_true,List.contains_iff_mem] at this;rcases this with g|g
   .exact hL _ g
   exact hs _ g
  obtain⟨q,s,f⟩:=h;have j:q∈r:=by
   rcases List.mem_cons.1 s with e|e
   .subst e;exact absurd f hi
   exact e
  obtain⟨x,hx,l⟩:=Fw k (i :: seen) r hT.2 hL (λd hd=>by
   rcases List.mem_cons.1 hd with e|e
   .subst e;have:a.getD d true=true:=by simpa using hi
    by_cases m:d<a.size
    .simpa[Array.getD,m] using this
    exfalso;have n:a.size<=d:=ow;exact m (by
     have:=hlt d vq;omega)
   exact hs d e) (λx hx=>hlt x (by simp[hx])) ⟨q,j,f⟩
  exact⟨x,by simp[hx],l⟩
def ss(l:List Oper):List Nat->List Oper
 | []=>[]
 | k :: ks=>(l.drop k).take 1++ss l ks
theorem Gx{l:List Oper}:∀{a:List Nat},a.all (λk=>decide (k<l.length))=true->a.map (λk=>l[k]?)=(ss l a).map some
 | [],_=>rfl
 | k :: a,h=>by
  simp only[List.all_cons,Xxx,decide_eq_true_eq] at h;have b:(l.drop k).take 1=[l[k]'h.1]:=by
   rw[List.drop_eq_getElem_cons h.1]
   rfl
  rw[ss,b,List.map_cons,List.singleton_append,List.map_cons,List.getElem?_eq_getElem h.1,Gx h.2]
theorem bw:(∀o V a,dz o [] V a=a)/\(∀o i r V a,dz o (i :: r) V a=dz o r V (a.put (xt o i) (V i)))/\(∀o i,xt o i=match o[i]? with|none=>none|some o=>o.dst)/\(∀(a:Act) v,a.put none v=a)/\(∀(a:Act) d v,a.put (some d) v={ a with tmps:=a.tmps.setIfInBounds d v })/\(∀(l:List Oper) (i:Nat),l.toArray[i]?=l[i]?)/\(∀(l:List Oper) (a:Oper) (i:Nat),(a :: l)[i+1]?=l[i]?)/\(∀(l:List Oper) (a:Oper),(a :: l)[0]?=some a)/\(∀(l:List Value) (i:Nat) (a:Value),l.toArray.setIfInBounds i a=(l.set i a).toArray)/\(∀(l:List Value) (a b:Value) (i:Nat),(a :: l).set (i+1) b=a :: l.set i b)/\(∀(l:List Value) (a b:Value),(a :: l).set 0 b=b :: l):=⟨λ_ _ _=>rfl,λ_ _ _ _ _=>rfl,λ_ _=>rfl,λ_ _=>rfl,λ_ _ _=>rfl,λ_ _=>Qvz,λ_ _ _=>rfl,λ_ _=>rfl,λ_ _ _=>Qvq ..,λ_ _ _ _=>rfl,λ_ _ _=>rfl⟩
theorem jg:(∀l,ss l []=[])/\(∀l k ks,ss l (k :: ks)=(l.drop k).take 1++ss l ks)/\(∀(l:List Oper) (a:Oper) (i:Nat),(a :: l).drop (i+1)=l.drop i)/\(∀l:List Oper,l.drop 0=l)/\(∀(l:List Oper) (a:Oper) (i:Nat),(a :: l).take (i+1)=a :: l.take i)/\(∀l:List Oper,l.take 0=[])/\(∀(l m:List Oper) (a:Oper),a :: l++m=a :: (l++m))/\(∀l:List Oper,[]++l=l):=⟨λ_=>rfl,λ_ _ _=>rfl,λ_ _ _=>rfl,λ_=>rfl,λ_ _ _=>rfl,λ_=>rfl,λ_ _ _=>rfl,λ_=>rfl⟩
def tt(P:Program)(ops:Array Oper)(Q:Exit->Act->World->Prop)(S:World->Prop)(T:Nat->Bool):Nat->Array Bool->Act->World->Prop
 | 0,listed,a,w=>Region.ready .any ops listed=[]/\Q .normal a w
 | fuel+1,listed,a,w=>(Region.ready .any ops listed=[]->Q .normal a w) /\
   ∀i∈Region.ready .any ops listed,wpOp P ops Q i (λa' w'=>(T i=false->S w')/\tt P ops Q S T fuel (listed.setIfInBounds i true) a' w') a w
theorem Fx{P:Program}{c:Array Oper}{Q:Exit->Act->World->Prop}{S:World->Prop}{T:Nat->Bool}:∀(fuel:Nat) (b:Array Bool) (a:Act) (w:World),tt P c Q S T fuel b a w->wpAny P .any c Q fuel b a w
 | 0,_,_,_,h=>h
 | fuel+1,_,_,_,h=>⟨h.1,λi hi=>wpOp_mono (λd w' e=>Fx fuel _ d w' e.2) (h.2 i hi)⟩
def qu(ops:Array Oper)(listed:Array Bool):Prop:=∀j,listed.getD j false=true->∀d∈oe ops j,listed.getD d false=true
def Dy(ops:Array Oper):Nat->Nat->Nat->Bool
 | 0,_,_=>false
 | f+1,j,i=>(oe ops j).any (λd=>d==i||Dy ops f d i)
theorem Gz{c:Array Oper}{a:Array Bool}(hc:qu c a):∀(f j i:Nat),(∀d∈oe c j,a.getD d false=true)->Dy c f j i=true->a.getD i false=true
 | 0,_,_,_,h=>by simp[Dy] at h
 | f+1,j,i,hd,h=>by
  unfold Dy at h;obtain⟨d,e,b⟩:=List.any_eq_true.1 h;simp only[Bool.or_eq_true,beq_iff_eq] at b;rcases b with rfl|b
  .exact hd d e
  exact Gz hc f d i (hc d (hd d e)) b
theorem Li{b:Array Oper}{a:Array Bool}(h:j∈Region.ready .any b a):∀d∈oe b j,a.getD d false=true:=λd hd=>by
 obtain⟨_,o,g,c⟩:=mem_ready.1 h;unfold oe at hd;rw[g] at hd;obtain⟨e,f,rfl⟩:=List.mem_map.1 hd;have:=List.mem_filter.1 f;exact c e (by simpa using this.1) this.2
theorem Vk{a:Array Bool}{d:Nat}(h:a.getD d false=true):(a.setIfInBounds i true).getD d false=true:=by
 by_cases hid:i=d
 .subst hid;by_cases b:i<a.size
  .simp[Array.getD,b]
  simp[Array.getD,b] at h
 rw[getD_set_ne false hid];exact h
theorem qu.set{b:Array Oper}{a:Array Bool}(hc:qu b a)(hi:i∈Region.ready .any b a):qu b (a.setIfInBounds i true):=λj e d hd=>by
 by_cases c:i=j
 .subst c;exact Vk (Li hi d hd)
 rw[getD_set_ne false c] at e;exact Vk (hc j e d hd)
theorem qu.none(a:Array Oper)(n:Nat):qu a (Array.replicate n false):=λj b=>by
 by_cases c:j<n<;>simp[Array.getD,c] at b
theorem acu{P:Program}{f:Array Oper}{T:Nat->Bool}{N:Nat}{n:Oper}(hi:f[i]?=some n)(z:∀(j:Nat) (o:Oper) cs b,f[j]?=some o->o.op ≠ .select cs b)
  (Y:∀c a w,Q (.panic c) (a.put n.dst v) w->Q (.panic c) a w) (hT:∀j,T j=true->Dy f N j i=true) (af:T i=false) :
  ∀(fuel:Nat) (d:Array Bool) (a:Act) (w:World),
   (∀j p,f[j]?=some p->j≠i->d.getD j true=false->(∀e∈p.after,Region.binds .any e=true->e.on≠i)->n.apart f p=true) ->
   i∈Region.ready .any f d->qu f d->YieldsIf P f S n v a->S w ->
   tt P f Q S T fuel (d.setIfInBounds i true) (a.put n.dst v) w->tt P f Q S T (fuel+1) d a w:=by
 intro fuel
 induction fuel with
 | zero =>
  intro d a w _ m _ B s H;refine⟨λh=>(by rw[h] at m;cases m),λj r => ?_⟩;by_cases g:j=i
  .subst g;exact B.wpOp hi s ⟨λ_=>s,H⟩
  have:=ready_mono r g;rw[H.1] at this;cases this
 | succ fuel ih =>
  intro d a w q m hc B s H;refine⟨λh=>(by rw[h] at m;cases m),λj r => ?_⟩;by_cases g:j=i
  .subst g;exact B.wpOp hi s ⟨λ_=>s,H⟩
  have l:=H.2 j (ready_mono r g);obtain⟨x,p,y,G⟩:=mem_ready.1 r;have u:¬d.getD i false=true:=λl=>by
   have K:=(mem_ready.1 m).1;rcases Nat.lt_or_ge i d.size with F|F
   .simp[F] at K l;rw[K] at l;cases l
   simp[Array.getElem?_eq_none F] at l
  have J:∀e∈p.after,Region.binds .any e=true->e.on≠i:=λe he hb M=>by
   have l:=G e he hb;rw[M] at l;exact u l
  have L:T j=false:=by
   cases hq:T j
   .rfl
   exact absurd (Gz hc N j i (Li r) (hT j hq)) u
  have X:=wpOp_putIf y (q j p y g x J) (λcs b=>z i n cs b hi) (λcs b=>z j p cs b y) Y B l;have t:∀k ok,f[k]?=some ok->k≠i->(d.setIfInBounds j true).getD k true=false ->
    (∀e∈ok.after,Region.binds .any e=true->e.on≠i)->n.apart f ok=true:=λk ok hk U E V=>by
   refine q k ok hk U ?_ V;by_cases D:j=k
   .subst D;exact x
   rw[getD_set_ne true D] at E;exact E
  refine wpOp_mono (λW w' A=>⟨A.2.1,ih (d.setIfInBounds j true) W w' t (ready_mono m (Ne.symm g)) (hc.set r) A.1 (A.2.1 L) ?_⟩) X;rw[Array.setIfInBounds_comm _ _ g];exact A.2.2
def Es(o:Oper):Bool:=Ti o||match o.op with
 | .extract ..=>true
 | .build ..=>true
 | .field ..=>true
 | .index ..=>true
 | .unOp ..=>true
 | .convert ..=>true
 | _=>false
theorem adw{P:Program}{o:Oper}{ρ:Operand->Value}{n:Next}(a:Es o=true)(h:(execOp ρ o).run P w = .ok n w'):∃v,n = .value v:=by
 unfold Es at a;rw[Bool.or_eq_true] at a;rcases a with a|a
 .exact Pu a h
 unfold execOp at h
 split at a
 all_goals first
  | (cases a;done)
  | (rename_i hx;rw[hx] at h;exact ap1 h)
theorem yh{P:Program}{l:List Oper}{Q:Exit->Act->World->Prop}{S:World->Prop}{T:Nat->Bool}{N:Nat}{K:Act->Prop}{w:World}{fuel:Nat}(hs:Region.noSelect l.toArray=true)(g:S w)(q:∀c a a' w,Q (.panic c) a w->Q (.panic c) a' w):
  ∀(d:List Nat) (os:List Oper) (b:Array Bool) (a:Act),C9 l.toArray d b=true->(∀k∈d,T k=false/\∀j,T j=true->Dy l.toArray N j k=true)->qu l.toArray b->d.map (λk=>l[k]?)=os.map some->(os.all Es)=true ->
   wpQuiet P l.toArray S K os a->(∀a,K a->qu l.toArray (lj b d)->tt P l.toArray Q S T fuel (lj b d) a w)->tt P l.toArray Q S T (d.length+fuel) b a w
 | [],[],b,a,_,_,hc,_,_,h,hK=>by rw[List.length_nil,Nat.zero_add];exact hK a h hc
 | k :: d,o :: os,b,a,hB,hTk,hc,hk,hv,h,hK=>by
  simp only[List.map_cons,List.cons.injEq] at hk;simp only[List.all_cons,Xxx] at hv;simp only[C9,Xxx] at hB;rw[List.length_cons,Nat.add_right_comm];have e:k∈Region.ready .any l.toArray b:=by simpa using hB.1.1
  have go:∀v,YieldsIf P l.toArray S o v a->tt P l.toArray Q S T (d.length+fuel) (b.setIfInBounds k true) (a.put o.dst v) w->tt P l.toArray Q S T (d.length+fuel+1) b a w :=
   λv z s=>acu (N:=N) (by simpa using hk.1) (Region.noSelect_spec hs) (λc a w i=>q _ _ _ _ i) (hTk k vq).2 (hTk k vq).1 _ b a w (Region.free_spec (by simpa using hk.1) hB.1.2) e hc z g s
  have f:=λ(a:Act) (i:wpQuiet P l.toArray S K os a)=>yh (N:=N) (T:=T) (fuel:=fuel) hs g q d os _ a hB.2 (λA r=>hTk A (by simp[r])) (hc.set e) hk.2 hv.2 i hK;unfold wpQuiet at h
  split at h
  .rename_i p;obtain⟨v,t,y⟩:=h;refine go v (.inl ⟨p,λw' g => ?_⟩) (f _ y);have:=t w' g;unfold Oper.quietAt at this;cases m:(execOp a.eval o).run P w' with
   | ok n w2 =>
    rw[m] at this;obtain⟨u,rfl⟩:=adw hv.1 m;simp only[Oper.quietUpon] at this;rw[this.1,this.2]
   | halt x w2=>rw[m] at this;exact this.elim
  rename_i p;exact go undef (.inr ⟨by simpa using p,rfl⟩) (f _ h)
 | [],_ :: _,_,_,_,_,_,hk,_,_,_=>by simp at hk
 | _ :: _,[],_,_,_,_,_,hk,_,_,_=>by simp at hk
def fw(t:Bool)(S:World->Prop)(w:World):Prop:=t=false->S w
theorem fw.yes:fw true S w:=λh=>by cases h
theorem fw.no(h:S w):fw false S w:=λ_=>h
def O0(P:Program)(ops:Array Oper)(Q:Exit->Act->World->Prop)(S:World->Prop):List (Bool × Nat)->Act->World->Prop
 | [],a,w=>Q .normal a w
 | (t,i) :: r,a,w=>wpOp P ops Q i (λa' w'=>fw t S w'/\O0 P ops Q S r a' w') a w
def Nn(ops:Array Oper):List (Bool × Nat)->Array Bool->Bool
 | [],listed=>Region.ready .any ops listed==[]
 | (t,i) :: r,listed=>Region.ready .any ops listed==[i]&&Nn ops r (listed.setIfInBounds i true)
theorem C2{P:Program}{d:Array Oper}{Q:Exit->Act->World->Prop}{S:World->Prop}{T:Nat->Bool}:∀(c:List (Bool × Nat)) (b:Array Bool) (a:Act) (w:World),
   Nn d c b=true->(∀t i,(t,i)∈c->T i=t)->O0 P d Q S c a w->tt P d Q S T c.length b a w
 | [],b,a,w,hB,_,h=>⟨by simpa[Nn] using hB,h⟩
 | (t,i) :: r,b,a,w,hB,hT,h=>by
  simp only[Nn,Xxx,beq_iff_eq] at hB;refine⟨λl=>absurd (hB.1.symm.trans l) vq,λj f => ?_⟩;rw[hB.1,List.mem_singleton] at f;subst f;refine wpOp_mono (λk w' e=>⟨?_,C2 r _ k w' hB.2 (λt i g=>hT t i (by simp[g])) e.2⟩) h;rw[hT t j vq];exact e.1
theorem o6{P:Program}{b:Array Oper}{K:Act->World->Prop}{a:Act}(h:K a w):wpList P b (Exit.then K Q) [] a w:=by unfold wpList;exact h
theorem bu{P:Program}{l:List Oper}{r:List (Bool × Nat)}{t:Bool}(k:Nat){o:Oper}{a:Act}(c:l[k]?=some o)
  (h:wpList P l.toArray (Exit.then (λb w'=>fw t S w'/\O0 P l.toArray Q S r b w') Q) [o] a w):O0 P l.toArray Q S ((t,k) :: r) a w :=
 ai k c h
def vn(ops:Array Oper)(rem:List Nat)(L:Array Bool):Bool :=
 (List.range ops.size).all (λi=>L.getD i true||rem.contains i||rem.all (λr=>Dy ops ops.size i r)) &&
 Xm ops L [] rem&&rem.all (λr=>decide (r<ops.size) && !L.getD r true)&&decide (L.size=ops.size)&&decide ((rem.map (xt ops)).Nodup)
theorem aja{P:Program}{ops:Array Oper}{T:Nat->Bool}{rem:List Nat}{L:Array Bool}{D:Nat->Value->List Nat->World->Prop}{fuel:Nat}(f:vn ops rem L=true)(t:∀r∈rem,T r=false)
  (mono:∀j∈rem,∀v g w w',Bw w w'->D j v g w->D j v g w') (lt:∀j∈rem,∀v g w,D j v g w->∀x∈g,x<w.heap.size)
  (step:∀i∈rem,∀(V:Nat->Value) (G:Nat->List Nat) (w:World) (K:Act->World->Prop),S w->(∀d∈oe ops i,d∈rem->D d (V d) (G d) w) ->
   (∀v g w',S w'->Bw w w'->(∀x∈g,w.heap.size<=x)->D i v g w'->K ((dz ops rem V a1).put (xt ops i) v) w')->wpOp P ops Q i K (dz ops rem V a1) w)
  (done:∀(V:Nat->Value) (G:Nat->List Nat) (w:World),S w->(∀j∈rem,D j (V j) (G j) w)->(∀j∈rem,∀k∈rem,j≠k->∀x∈G j,x ∉ G k)->tt P ops Q S T fuel (lj L rem) (dz ops rem V a1) w) :
  ∀(m:Nat) (listed:Array Bool) (V:Nat->Value) (G:Nat->List Nat) (w:World),(rem.filter (λr => !listed.getD r true)).length=m->listed.size=ops.size->(∀j,j ∉ rem->listed[j]?=L[j]?)->qu ops listed->S w->(∀j∈rem,listed.getD j true=true->D j (V j) (G j) w) ->
   (∀j∈rem,∀k∈rem,listed.getD j true=true->listed.getD k true=true->j≠k->∀x∈G j,x ∉ G k)->tt P ops Q S T (m+fuel) listed (dz ops rem V a1) w:=by
 simp only[vn,Xxx,decide_eq_true_eq] at f;obtain⟨⟨⟨⟨hoth,b⟩,hrem⟩,p⟩,hnd⟩:=f;have hrem':∀r∈rem,r<ops.size/\L.getD r true=false:=λr hr=>aca;intro m
 induction m with
 | zero =>
  exact atu
 | succ m ih =>
  intro listed V G w hm hsz hag hcl hS hD hA;have hex:∃r∈rem,listed.getD r true=false:=ahd;have l:∀d,L.getD d false=true->listed.getD d false=true:=λd hd=>ag7;obtain⟨u,s,c⟩:=Fw hsz [] rem b l (λd hd=>by simp at hd) (λr hr=>(hrem' r hr).1) hex;rw[Nat.add_right_comm];refine⟨λn=>absurd (n▸c) vq,λi hi => ?_⟩;obtain⟨hli,o,ho,hdep⟩:=mem_ready.1 hi;have a:∀d∈oe ops i,listed.getD d false=true:=λd hd=>abj;have hdt:∀d,listed.getD d false=true->listed.getD d true=true:=λd hd=>abx;have hir:i∈rem:=ag3;refine step i hir V G w _ hS (λd hd hdr=>hD d hdr (hdt d (a d hd))) (λv g w' hS' hBel hfr hDi => ?_);exact ax8
def ayp(P:Program)(ops:Array Oper)(Q:Exit->Act->World->Prop)(S:World->Prop)(rem:List Nat)(ord:List (Bool × Nat))(a1:Act):Prop :=
 ∃D:Nat->Value->List Nat->World->Prop,(∀j∈rem,∀v g w w',Bw w w'->D j v g w->D j v g w')/\(∀j∈rem,∀v g w,D j v g w->∀x∈g,x<w.heap.size) /\
  (∀i∈rem,∀(V:Nat->Value) (G:Nat->List Nat) (w:World) (K:Act->World->Prop),S w->(∀d∈oe ops i,d∈rem->D d (V d) (G d) w) ->
   (∀v g w',S w'->Bw w w'->(∀x∈g,w.heap.size<=x)->D i v g w'->K ((dz ops rem V a1).put (xt ops i) v) w')->wpOp P ops (NoPanic Q) i K (dz ops rem V a1) w) /\
  (∀(V:Nat->Value) (G:Nat->List Nat) (w:World),S w->(∀j∈rem,D j (V j) (G j) w)->(∀j∈rem,∀k∈rem,j≠k->∀x∈G j,x ∉ G k)->O0 P ops (NoPanic Q) S ord (dz ops rem V a1) w)
def aj1(ops:Array Oper)(ks rem:List Nat)(ord:List (Bool × Nat)):Bool :=
 ks.all (λk => !ord.contains (true,k)&&ord.all (λx => !x.1||Dy ops ops.size x.2 k))&&rem.all (λr => !ord.contains (true,r))&&ord.all (λx=>x.1 || !ord.contains (true,x.2))
theorem dg{P:Program}{l:List Oper}{a:Act}(S:World->Prop)(e b:List Nat)(d:List (Bool × Nat))(p:S w.drew)(h:wpQuiet P l.toArray S (ayp P l.toArray Q S b d) (ss l e) a)(B:P.follows .mixedOrders=true:=by kernel_rfl)(hs:Region.noSelect l.toArray=true:=by kernel_rfl)(z:C9 l.toArray e (Array.replicate l.length false)=true:=by kernel_rfl)(v:e.all (λk=>decide (k<l.length))=true:=by kernel_rfl)(E:((ss l e).all Es)=true:=by kernel_rfl)(o:vn l.toArray b (lj (Array.replicate l.length false) e)=true:=by kernel_rfl)(hTB:aj1 l.toArray e b d=true:=by kernel_rfl)(x:Nn l.toArray d (lj (lj (Array.replicate l.length false) e) b)=true:=by kernel_rfl)(hl:e.length+(b.length+d.length)=l.length:=by kernel_rfl):(Code.region R l.toArray true).wp P Q a w:=by
 refine wp_region_noPanic (wp_region_any B ?_);have hM':=o;simp only[vn,Xxx,decide_eq_true_eq] at hM';simp only[aj1,Xxx] at hTB;have hT:∀j,(d.contains (true,j))=true->(true,j)∈d:=λj h=>by simpa using h
 have key:=yh (Q:=NoPanic Q) (T:=λi=>d.contains (true,i)) (N:=l.toArray.size) (fuel:=b.length+d.length) (w:=w.drew) hs p (λc a F w h=>(h:False).elim) e (ss l e) _ a z (λk hk => ?_) (qu.none _ _) (Gx v) E h (λa1 A u => ?_)
 .exact ab6
 .exact alv
 obtain⟨D,mono,lt,step,done⟩:=A;have n:(b.filter (λr => !(lj (Array.replicate l.length false) e).getD r true))=b:=S8;have g:∀j∈b,(lj (Array.replicate l.length false) e).getD j true=true->False:=λj hj hlj=>an6;obtain⟨m,s⟩:∃m,dz l.toArray b m a1=a1:=⟨_,A8 a1 b⟩;have:=aja (P:=P) (Q:=NoPanic Q) (S:=S) (T:=λi=>d.contains (true,i)) (a1:=a1) (fuel:=d.length) o (λr hr=>asy) mono lt step
  (λV G w' q y hA=>C2 d _ _ w' x (λt i f=>by
   cases t with
   | true=>simpa using f
   | false =>
    have:=List.all_eq_true.1 hTB.2 (false,i) f
    simpa using this) (done V G w' q y hA))
  b.length (lj (Array.replicate l.length false) e) m (λ_=>[]) w.drew (by rw[n]) hM'.1.2 (λ_ _=>rfl) u p (λj hj hlj=>(g j hj hlj).elim) (λj hj k hk hlj _ _=>(g j hj hlj).elim)
 rw[s] at this;exact this
theorem ay0(f:Nat)(caps:Array Value)(bad:Nat->Bool)(a:Option Addr)(n c:Nat)(w:World)(q:n<=c)(hc:c<=maxLen)(z:Nat->Od)(hz:Dp w a n z)
  (m:∀args w,(callFunc f args).run prog w = .ok (.enter f args) w)
  (hf:Hid (∀i w1,i<n->Bw w w1->Calls prog f (#[(z i).val]++caps) w1 λe w'=>e = .returned (.bool (bad i))/\Bw w1 w')) :
  Calls prog 229 #[.slice a n c,.func (.func f) #[] caps] w λe w'=>∃r:Int,e = .returned (.int .i64 r)/\decide (0<=r)=aw n bad/\Bw w w':=by
 unfold maxLen at hc;go_enter func229,ntmps229;go_wp2_with fail
 go_loopw [8] (λi w1=>∃k:Nat,k<=n/\i = .int .i64 k/\(∀j,j<k->bad j=false)/\Bw w w1) (λi _=>n-(intOf i).toNat)
 case atStart=>exact vu
 obtain⟨k,p,rfl,d,hB⟩:=hrel;have HN:=hid d;clear d;by_cases hlt:k<n
 .obtain⟨b,o,rfl,_,g,l,_⟩:=(hz.below hB) k hlt;exact Xj
 exact Tb
theorem ar4(f:Nat)(caps:Array Value)(bad:Nat->Bool)(a:Option Addr)(n c:Nat)(w:World)(j:n<=c)(hc:c<=maxLen)(z:Nat->Od)(k:Dp w a n z)
  (d:∀args w,(callFunc f args).run prog w = .ok (.enter f args) w)
  (g:Hid (∀i w1,i<n->Bw w w1->Calls prog f (#[(z i).val]++caps) w1 λe w'=>e = .returned (.bool (bad i))/\Bw w1 w')) :
  Calls prog 199 #[.slice a n c,.func (.func f) #[] caps] w λe w'=>e = .returned (.bool (aw n bad))/\Bw w w':=by
 have b:=hc;unfold maxLen at hc;go_enter func199,ntmps199;go_wp2_with fail;refine(ay0 f caps bad a n c w j b z k d g).mono ?_;exact Hf
theorem ayy(f:Nat)(caps:Array Value)(bad:Nat->Bool)(a:Option Addr)(n c:Nat)(w:World)(g:n<=c)(hc:c<=maxLen)(z:Nat->Hd)(hz:jx w a n z)
  (d:∀args w,(callFunc f args).run prog w = .ok (.enter f args) w)
  (hf:Hid (∀i w1,i<n->Bw w w1->Calls prog f (#[(z i).val]++caps) w1 λe w'=>e = .returned (.bool (bad i))/\Bw w1 w')) :
  Calls prog 178 #[.slice a n c,.func (.func f) #[] caps] w λe w'=>∃r:Int,e = .returned (.int .i64 r)/\decide (0<=r)=aw n bad/\Bw w w':=by
 unfold maxLen at hc;go_enter func178,ntmps178;exact Xh
theorem Qw(f:Nat)(caps:Array Value)(bad:Nat->Bool)(a:Option Addr)(n c:Nat)(w:World)(j:n<=c)(hc:c<=maxLen)(z:Nat->Hd)(k:jx w a n z)
  (d:∀args w,(callFunc f args).run prog w = .ok (.enter f args) w)
  (g:Hid (∀i w1,i<n->Bw w w1->Calls prog f (#[(z i).val]++caps) w1 λe w'=>e = .returned (.bool (bad i))/\Bw w1 w')) :
  Calls prog 131 #[.slice a n c,.func (.func f) #[] caps] w λe w'=>e = .returned (.bool (aw n bad))/\Bw w w':=by
 have b:=hc;unfold maxLen at hc;go_enter func131,ntmps131;go_wp2_with fail;refine(ayy f caps bad a n c w j b z k d g).mono ?_;exact Hf
theorem ayw(f:Nat)(caps:Array Value)(bad:Nat->Bool)(a:Option Addr)(n c:Nat)(w:World)(g:n<=c)(hc:c<=maxLen)(z:Nat->Hd)(hz:jx w a n z)
  (d:∀args w,(callFunc f args).run prog w = .ok (.enter f args) w)
  (hf:Hid (∀i w1,i<n->Bw w w1->Calls prog f (#[(z i).val]++caps) w1 λe w'=>e = .returned (.bool (bad i))/\Bw w1 w')) :
  Calls prog 184 #[.slice a n c,.func (.func f) #[] caps] w λe w'=>∃r:Int,e = .returned (.int .i64 r)/\decide (0<=r)=aw n bad/\Bw w w':=by
 unfold maxLen at hc;go_enter func184,ntmps184;exact Xh
theorem ayt(f:Nat)(caps:Array Value)(bad:Nat->Bool)(a:Option Addr)(n c:Nat)(w:World)(j:n<=c)(hc:c<=maxLen)(z:Nat->Hd)(k:jx w a n z)
  (d:∀args w,(callFunc f args).run prog w = .ok (.enter f args) w)
  (g:Hid (∀i w1,i<n->Bw w w1->Calls prog f (#[(z i).val]++caps) w1 λe w'=>e = .returned (.bool (bad i))/\Bw w1 w')) :
  Calls prog 203 #[.slice a n c,.func (.func f) #[] caps] w λe w'=>e = .returned (.bool (aw n bad))/\Bw w w':=by
 have b:=hc;unfold maxLen at hc;go_enter func203,ntmps203;go_wp2_with fail;refine(ayw f caps bad a n c w j b z k d g).mono ?_;exact Hf
theorem ayz(f:Nat)(caps:Array Value)(bad:Nat->Bool)(a:Option Addr)(n c:Nat)(w:World)(g:n<=c)(hc:c<=maxLen)(z:Nat->Hd)(hz:jx w a n z)
  (d:∀args w,(callFunc f args).run prog w = .ok (.enter f args) w)
  (hf:Hid (∀i w1,i<n->Bw w w1->Calls prog f (#[(z i).val]++caps) w1 λe w'=>e = .returned (.bool (bad i))/\Bw w1 w')) :
  Calls prog 227 #[.slice a n c,.func (.func f) #[] caps] w λe w'=>∃r:Int,e = .returned (.int .i64 r)/\decide (0<=r)=aw n bad/\Bw w w':=by
 unfold maxLen at hc;go_enter func227,ntmps227;exact Xh
theorem ayu(f:Nat)(caps:Array Value)(bad:Nat->Bool)(a:Option Addr)(n c:Nat)(w:World)(j:n<=c)(hc:c<=maxLen)(z:Nat->Hd)(k:jx w a n z)
  (d:∀args w,(callFunc f args).run prog w = .ok (.enter f args) w)
  (g:Hid (∀i w1,i<n->Bw w w1->Calls prog f (#[(z i).val]++caps) w1 λe w'=>e = .returned (.bool (bad i))/\Bw w1 w')) :
  Calls prog 204 #[.slice a n c,.func (.func f) #[] caps] w λe w'=>e = .returned (.bool (aw n bad))/\Bw w w':=by
 have b:=hc;unfold maxLen at hc;go_enter func204,ntmps204;go_wp2_with fail;refine(ayz f caps bad a n c w j b z k d g).mono ?_;exact Hf
theorem acj(x:Od)(w:World):
  Calls prog 198 #[x.val] w λe w'=>e = .returned (.bool (ur x))/\Bw w w':=by
 unfold ur Od.val;go_enter func198,ntmps198;go_wp2_with(go_at_call 43;refine ap (dm _ _ _ _) ?_)
 all_goals go_ret
 all_goals exact⟨rfl,brf.alloc nlr _⟩
theorem Tz(B:Nat)(p:Pl)(x:Hd)(w:World)(les:p.ns<=p.cs)(caps:p.cs<=maxLen)(g:B<w.heap.size)(c1:w.cell? ⟨B,1,none⟩=some (.slice p.sa p.ns p.cs)):
  Calls prog 200 #[x.val,.pointer (some ⟨B,0,none⟩)] w λe w'=>e = .returned (.bool (mq p x))/\Bw w w':=by
 have a:p.ns<=maxLen:=Qzx les caps;unfold maxLen at caps;unfold mq Hd.val;cases c:inB x.o 0 ((p.ns:Int)-1)
 .exact Xl
 cases d:inB x.l 1 200
 .exact Xl
 cases f:inB x.b 0 x.l
 .exact Xl
 exact Xl
theorem Wk(B:Nat)(p:Pl)(x:Hd)(w:World)(les:p.ns<=p.cs)(caps:p.cs<=maxLen)(leb:p.nb<=p.cb)(capb:p.cb<=maxLen)(k:B<w.heap.size)(d:w.cell? ⟨B,0,none⟩=some (.slice p.ab p.nb p.cb))(c1:w.cell? ⟨B,1,none⟩=some (.slice p.sa p.ns p.cs)):
  Calls prog 205 #[x.val,.pointer (some ⟨B,0,none⟩)] w λe w'=>e = .returned (.bool (nt p x))/\Bw w w':=by
 have c:p.ns<=maxLen:=Qzx les caps;have a:p.nb<=maxLen:=Qzx leb capb;unfold maxLen at caps capb;unfold nt Hd.val;cases f:inB x.o 0 ((p.ns:Int)-1)
 .exact Tg
 cases g:inB x.l 0 ((p.nb:Int)-1)
 .exact Tg
 cases i:inB x.b 0 ((p.nb:Int)-1)
 .exact Tg
 cases j:(x.l==x.b)
 .exact Tg
 exact Tg
theorem Wm(B:Nat)(x low:Int)(w:World)(a:w.cell? ⟨B,0,none⟩=some (.int .i64 low)):
  Calls prog 207 #[.int .i64 x,.pointer (some ⟨B,0,none⟩)] w λe w'=>e = .returned (.bool (!inB x low 1048576))/\w'=w:=by
 go_enter func207,ntmps207;go_wp2_with(go_at_call 43;refine ap (dm _ _ _ _) ?_)
 all_goals go_ret
 all_goals exact⟨rfl,rfl⟩
theorem F6(B:Nat)(p:Pl)(r:Rw)(low:Int)(w:World)(f:r.At w)(les:p.ns<=p.cs)(caps:p.cs<=maxLen)(m:B<w.heap.size)(c1:w.cell? ⟨B,1,none⟩=some (.slice p.sa p.ns p.cs)):
  Calls prog 206 #[.slice r.a r.n r.c,.int .i64 low,.pointer (some ⟨B,0,none⟩)] w λe w'=>e = .returned (.bool (nj p r low))/\Bw w w':=by
 have b:=f.cap;have l:=f.le;have g:=b;unfold maxLen at g caps;have d:Bw w (w.alloc (.cells #[.int .i64 low] 3)):=(Below.refl w.heap.size w).alloc nlr _;have ints:=(f.below d).ints;cases j:((r.n:Int) !=(p.ns:Int))
 .go_enter func206,ntmps206;go_wp2_with fail;refine(aqu 207 #[.pointer (some ⟨w.heap.size,0,none⟩)] (λi => !inB (r.z i) low 1048576) _ _ _ _ l b r.z ints (enters_of func207 ko rfl) (λi w1 _ h=>(Wm w.heap.size _ low w1 ((h.cell (p:=⟨w.heap.size,0,none⟩) vq).trans vq)).mono λ_ _ h=>⟨h.1,h.2▸Below.refl _ _⟩)).mono ?_;rintro e w1 ⟨rfl,k⟩;go_wp2_with fail;go_ret;exact⟨by simp[nj,j],d.trans (k.mono vq)⟩
 go_enter func206,ntmps206;go_wp2_with fail;go_ret;exact⟨by simp[nj,j],d⟩
def jj(w:World)(Bp Bs:Nat)(p:Pl)(s:St):Prop :=
 (Bp<w.heap.size/\w.cell? ⟨Bp,0,none⟩=some (.slice p.ab p.nb p.cb)/\w.cell? ⟨Bp,1,none⟩=some (.slice p.sa p.ns p.cs)) /\
 Bs<w.heap.size/\w.cell? ⟨Bs,0,none⟩=some (.slice s.on.a s.on.n s.on.c)/\w.cell? ⟨Bs,1,none⟩=some (.slice s.os.a s.os.n s.os.c)/\w.cell? ⟨Bs,2,none⟩=some (.slice s.hs.a s.hs.n s.hs.c) /\
  w.cell? ⟨Bs,3,none⟩=some (.slice s.ms.a s.ms.n s.ms.c)/\w.cell? ⟨Bs,4,none⟩=some (.slice s.si.a s.si.n s.si.c)/\w.cell? ⟨Bs,5,none⟩=some (.slice s.so.a s.so.n s.so.c)/\w.cell? ⟨Bs,6,none⟩=some (.slice s.sf.a s.sf.n s.sf.c)
theorem jj.below{f:Nat}(h:jj w g f p s)(e:Bw w w'):jj w' g f p s:=by
 obtain⟨⟨a,b,c⟩,d,e0,i,j,k,e4,e5,e6⟩:=h;exact⟨⟨Xzx a e.size,(e.cell (p:=⟨g,0,none⟩) a).trans b,(e.cell (p:=⟨g,1,none⟩) a).trans c⟩,Xzx d e.size,(e.cell (p:=⟨f,0,none⟩) d).trans e0,(e.cell (p:=⟨f,1,none⟩) d).trans i,(e.cell (p:=⟨f,2,none⟩) d).trans j,(e.cell (p:=⟨f,3,none⟩) d).trans k,(e.cell (p:=⟨f,4,none⟩) d).trans e4,(e.cell (p:=⟨f,5,none⟩) d).trans e5,(e.cell (p:=⟨f,6,none⟩) d).trans e6⟩
theorem ku(w:World)(p:Pl)(s:St)(t u:TypeId):jj ((w.alloc (.cells #[.slice p.ab p.nb p.cb,.slice p.sa p.ns p.cs] t)).alloc (.cells s.cells u)) w.heap.size (w.heap.size+1) p s:=by
 have a:=(Blk.new w #[.slice p.ab p.nb p.cb,.slice p.sa p.ns p.cs] t).alloc (.cells s.cells u);have hs:=Blk.new (w.alloc (.cells #[.slice p.ab p.nb p.cb,.slice p.sa p.ns p.cs] t)) s.cells u;rw[World.size_alloc] at hs;exact⟨⟨a.lt,a.cell (j:=0) vq,a.cell (j:=1) vq⟩,hs.lt,hs.cell (j:=0) G9,hs.cell (j:=1) G9,hs.cell (j:=2) G9,hs.cell (j:=3) G9,hs.cell (j:=4) G9,hs.cell (j:=5) G9,hs.cell (j:=6) G9⟩
theorem dx(w:World)(o a:Obj):Bw w ((w.alloc o).alloc a):=((Below.refl w.heap.size w).alloc nlr o).alloc vq a
theorem T1(B f:Nat)(p:Pl)(x:Od)(w:World)(hx:x.ls.At w)(les:p.ns<=p.cs)(caps:p.cs<=maxLen)(g:f<w.heap.size)(c1:w.cell? ⟨f,1,none⟩=some (.slice p.sa p.ns p.cs))(s:B<w.heap.size)(c2:w.cell? ⟨B,0,none⟩=some (.func (.func 200) #[] #[.pointer (some ⟨f,0,none⟩)])):
  Calls prog 201 #[x.val,.pointer (some ⟨B,0,none⟩)] w λe w'=>e = .returned (.bool (ni p x))/\Bw w w':=by
 unfold Od.val;have d:=hx.cap;have r:=hx.le;have l:=d;unfold maxLen at l;have b:Bw w (w.alloc (.cells #[.int .i64 x.k,.slice x.ls.a x.ls.n x.ls.c] 124)):=(Below.refl w.heap.size w).alloc nlr _;have q:=(hx.below b).hds;cases m:inB x.k 0 2
 .go_enter func201,ntmps201;go_wp2_with(go_at_call 43;refine ap (dm _ _ _ _) ?_);go_ret;exact⟨by simp[ni,m],b⟩
 go_enter func201,ntmps201;go_wp2_with(go_at_call 43;refine ap (dm _ _ _ _) ?_);refine(Qw 200 #[.pointer (some ⟨f,0,none⟩)] (λj=>mq p (x.ls.z j)) _ _ _ _ r d x.ls.z q (enters_of func200 ko rfl) (λi w1 _ h=>Tz f p _ w1 les caps (Xzx g (b.trans (h.mono b.size)).size) (((b.trans (h.mono b.size)).cell (p:=⟨f,1,none⟩) g).trans c1))).mono ?_;rintro e w1 ⟨rfl,o⟩;go_wp2_with fail;go_ret;exact⟨by simp[ni,m],b.trans (o.mono b.size)⟩
theorem adv(s:St)(w:World)(hs:s.At w):
  Calls prog 148 #[s.val] w λe w'=>e = .returned (.bool (gz s))/\Bw w w':=by
 unfold St.val;have f:=hs.os.cap;have m:=hs.os.le;have b:Bw w (w.alloc (.cells s.cells 36)):=(Below.refl w.heap.size w).alloc nlr _;have g:=(hs.os.below b).ods;unfold St.cells at b g;cases c:decide (4<s.os.n);rotate_left
 .have j:(4:Int)<(s.os.n:Int):=by have:=of_decide_eq_true c;omega
  have a:=hid c;clear c;exact ann
 have j:¬(4:Int)<(s.os.n:Int):=by have:=of_decide_eq_false c;omega
 cases d:decide (8<s.ms.n)
 .have k:¬(8:Int)<(s.ms.n:Int):=by have:=of_decide_eq_false d;omega
  have a:=qa2 c d;clear c d;go_enter func148,ntmps148;go_wp2_with fail;refine(ar4 198 #[] (λi=>ur (s.os.z i)) _ _ _ _ m f s.os.z g (enters_of func198 ko rfl) (λi w1 _ _=>by rw[Array.append_empty];exact acj _ _)).mono ?_;rintro e w1 ⟨rfl,l⟩;go_wp2_with fail;go_ret;exact⟨by simp[gz,a.o.1,a.o.2],b.trans (l.mono b.size)⟩
 have k:(8:Int)<(s.ms.n:Int):=by have:=of_decide_eq_true d;omega
 have a:=hid d;clear c d;exact ann
theorem Wl(p:Pl)(s:St)(w:World)(u:p.At w)(hs:s.At w):
  Calls prog 149 #[p.val,s.val] w λe w'=>e = .returned (.bool (kt p s))/\Bw w w':=by
 have X:=ku w p s 25 36;have f:=dx w (.cells #[.slice p.ab p.nb p.cb,.slice p.sa p.ns p.cs] 25) (.cells s.cells 36);unfold St.cells at X f;have d:=hs.os.cap;have v:=hs.os.le;unfold Pl.val St.val;go_enter func149,ntmps149;go_wp2_with fail;obtain⟨W,q,g,r⟩:∃W,(((w.alloc (.cells #[.slice p.ab p.nb p.cb,.slice p.sa p.ns p.cs] 25)).alloc (.cells #[.slice s.on.a s.on.n s.on.c,.slice s.os.a s.os.n s.os.c,.slice s.hs.a s.hs.n s.hs.c,.slice s.ms.a s.ms.n s.ms.c,.slice s.si.a s.si.n s.si.c,.slice s.so.a s.so.n s.so.c,.slice s.sf.a s.sf.n s.sf.c] 36)).alloc (.cells #[.func (.func 200) #[] #[.pointer (some ⟨w.heap.size,0,none⟩)]] 165))=W/\Below (w.heap.size+2) ((w.alloc (.cells #[.slice p.ab p.nb p.cb,.slice p.sa p.ns p.cs] 25)).alloc (.cells #[.slice s.on.a s.on.n s.on.c,.slice s.os.a s.os.n s.os.c,.slice s.hs.a s.hs.n s.hs.c,.slice s.ms.a s.ms.n s.ms.c,.slice s.si.a s.si.n s.si.c,.slice s.so.a s.so.n s.so.c,.slice s.sf.a s.sf.n s.sf.c] 36)) W/\Blk W (w.heap.size+1+1) 165 1 (λj=>(#[.func (.func 200) #[] #[.pointer (some ⟨w.heap.size,0,none⟩)]]:Array Value).getD j default):=
  ⟨_,rfl,brf.alloc vq _,Blk.mk' vq rfl⟩
 rw[q];have x:=X.below (show Below _ _ W by simpa using g);have b:Bw w W:=f.trans (g.mono ow);clear X q;have l:=(hs.os.below b).ods;refine(ar4 201 #[.pointer (some ⟨w.heap.size+1+1,0,none⟩)] (λi=>ni p (s.os.z i)) _ _ _ _ v d s.os.z l (enters_of func201 ko rfl) (λi w1 hi h => ?_)).mono ?_
 .obtain⟨_,_,_,_,_,_,y⟩:=(Dp.below l h) i hi;have m:=x.below h;have t:=r.below h;exact T1 (w.heap.size+1+1) w.heap.size p _ w1 y u.les u.caps m.1.1 m.1.2.2 t.lt (t.k 0)
 rintro e w1 ⟨rfl,o⟩;go_wp2_with fail;go_ret;exact⟨rfl,b.trans (o.mono b.size)⟩
theorem Dh(w:World)(p:Pl)(s:St):∃W,((w.alloc (.cells #[.slice p.ab p.nb p.cb,.slice p.sa p.ns p.cs] 25)).alloc (.cells #[.slice s.on.a s.on.n s.on.c,.slice s.os.a s.os.n s.os.c,.slice s.hs.a s.hs.n s.hs.c,.slice s.ms.a s.ms.n s.ms.c,.slice s.si.a s.si.n s.si.c,.slice s.so.a s.so.n s.so.c,.slice s.sf.a s.sf.n s.sf.c] 36)).alloc (.cells #[.slice .none 0 0,.slice .none 0 0,.slice .none 0 0,.slice .none 0 0,.slice .none 0 0,.slice .none 0 0,.slice .none 0 0] 36)=W/\Bw w W/\jj W w.heap.size (w.heap.size+1) p s/\Blk W (w.heap.size+2) 36 7 (λ_ => .slice .none 0 0):=
 ⟨_,rfl,(dx _ _ _).alloc oq _,(ku w p s _ _).below ((Below.refl _ _).alloc (Nat.le_refl _) _),(Blk.mk' (cur:=#[.slice .none 0 0,.slice .none 0 0,.slice .none 0 0,.slice .none 0 0,.slice .none 0 0,.slice .none 0 0,.slice .none 0 0]) vq rfl).congr (λj b=>by match j,b with|0,_=>rfl|1,_=>rfl|2,_=>rfl|3,_=>rfl|4,_=>rfl|5,_=>rfl|6,_=>rfl)⟩
theorem Cq{c:World}(f:p.At w)(hs:s.At w)(b:Bw w c)(d:jj c w.heap.size (w.heap.size+1) p s)(e:Blk c (w.heap.size+2) 36 7 (λ_ => .slice .none 0 0)):Hid (∀a,Bw c a->jj a w.heap.size (w.heap.size+1) p s/\p.At a/\s.At a/\Bw w a/\Blk a (w.heap.size+2) 36 7 (λ_ => .slice .none 0 0)):=λa h=>⟨d.below h,(f.below b).below h,(hs.below b).below h,b.trans (h.mono b.size),e.below h⟩
theorem Lf(w:World)(p:Pl)(s:St):∃W,(w.alloc (.cells #[.slice p.ab p.nb p.cb,.slice p.sa p.ns p.cs] 25)).alloc (.cells #[.slice s.on.a s.on.n s.on.c,.slice s.os.a s.os.n s.os.c,.slice s.hs.a s.hs.n s.hs.c,.slice s.ms.a s.ms.n s.ms.c,.slice s.si.a s.si.n s.si.c,.slice s.so.a s.so.n s.so.c,.slice s.sf.a s.sf.n s.sf.c] 36)=W/\Bw w W/\jj W w.heap.size (w.heap.size+1) p s:=⟨_,rfl,dx _ _ _,ku w p s _ _⟩
theorem Ic{c:World}(e:p.At w)(hs:s.At w)(a:Bw w c)(d:jj c w.heap.size (w.heap.size+1) p s):Hid (∀b,Bw c b->jj b w.heap.size (w.heap.size+1) p s/\p.At b/\s.At b/\Bw w b):=λb h=>⟨d.below h,(e.below a).below h,(hs.below a).below h,a.trans (h.mono a.size)⟩
theorem X5(p:Pl)(s:St)(w:World)(b:p.At w)(hs:s.At w):
  Calls prog 151 #[p.val,s.val] w λe w'=>e = .returned (.bool (mm p s))/\Bw w w':=by
 have X:=ku w p s 25 36;have a:=dx w (.cells #[.slice p.ab p.nb p.cb,.slice p.sa p.ns p.cs] 25) (.cells s.cells 36);have d:=(hs.ms.below a).hds;unfold St.cells at X a d;have c:=hs.ms.cap;have j:=hs.ms.le;unfold Pl.val St.val;go_enter func151,ntmps151;go_wp2_with fail;refine(ayu 205 #[.pointer (some ⟨w.heap.size,0,none⟩)] (λi=>nt p (s.ms.z i)) _ _ _ _ j c s.ms.z d (enters_of func205 ko rfl) (λi w1 hi h => ?_)).mono ?_
 .have f:=X.below h;exact Wk w.heap.size p _ w1 b.les b.caps b.leb b.capb f.1.1 f.1.2.1 f.1.2.2
 rintro e w1 ⟨rfl,g⟩;go_wp2_with fail;go_ret;exact⟨rfl,a.trans (g.mono a.size)⟩
theorem ac2(p:Pl)(s:St)(w:World)(f:p.At w)(hs:s.At w):
  Calls prog 152 #[p.val,s.val] w λe w'=>e = .returned (.bool (gt p s))/\Bw w w':=by
 have X:=ku w p s 25 36;have b:=dx w (.cells #[.slice p.ab p.nb p.cb,.slice p.sa p.ns p.cs] 25) (.cells s.cells 36);have r:=enters_of func206 ko rfl;unfold Pl.val St.val;go_enter func152,ntmps152;go_wp2_with fail;obtain⟨W,i⟩:∃W,((w.alloc (.cells #[.slice p.ab p.nb p.cb,.slice p.sa p.ns p.cs] 25)).alloc (.cells s.cells 36))=W:=⟨_,rfl⟩;rw[i] at X b;unfold St.cells at i;rw[i];clear i;refine(F6 w.heap.size p s.si 0 W (hs.si.below b) f.les f.caps X.1.1 X.1.2.2).mono ?_;rintro e w1 ⟨rfl,a⟩;have g:=X.below a;have c:=b.trans (a.mono b.size);clear X b a;cases l:nj p s.si 0;rotate_left
 .go_wp2_with fail;go_ret;exact⟨by simp[gt,l],c⟩
 have n:=g;obtain⟨-,j,-,-,-,-,-,e5,-⟩:=n;go_wp2_with fail;refine(F6 w.heap.size p s.so 0 w1 (hs.so.below c) f.les f.caps g.1.1 g.1.2.2).mono ?_;rintro e q ⟨rfl,a⟩;have k:=g.below a;have d:=c.trans (a.mono c.size);clear g c a e5 j;cases m:nj p s.so 0
 .have o:=k;obtain⟨-,j,-,-,-,-,-,-,e6⟩:=o;go_wp2_with fail;refine(F6 w.heap.size p s.sf (-1048576) q (hs.sf.below d) f.les f.caps k.1.1 k.1.2.2).mono ?_;rintro e t ⟨rfl,a⟩;go_wp2_with fail;go_ret;exact⟨by simp[gt,l,m],d.trans (a.mono d.size)⟩
 go_wp2_with fail;go_ret;exact⟨by simp[gt,m],d⟩
theorem Wj(y A:Nat)(p:Pl)(s:St)(x:Hd)(w:World)(q:p.At w)(hs:s.os.At w)(X:jj w y A p s):
  Calls prog 202 #[x.val,.pointer (some ⟨A,0,none⟩),.pointer (some ⟨y,0,none⟩)] w λe w'=>e = .returned (.bool (jo p s x))/\Bw w w':=by
 obtain⟨W,D,a,g⟩:∃W,w.alloc (.cells #[.int .i64 x.o,.int .i64 x.l,.int .i64 x.b,.int .i64 x.n] 107)=W/\Bw w W/\Blk W w.heap.size 107 4 (λj=>(#[.int .i64 x.o,.int .i64 x.l,.int .i64 x.b,.int .i64 x.n]:Array Value).getD j default):=⟨_,rfl,(Below.refl w.heap.size w).alloc nlr _,Blk.mk' rfl rfl⟩;have B:=hid D;have t:=X.below a;have os:=hs.below a;have G:=os.le;have d:=os.cap;have Y:s.os.n<=maxLen:=Qzx G d;have aa:p.nb<=maxLen:=Qzx q.leb q.capb;have v:=q.capb;have ab:=q.leb;have u:=d;unfold maxLen at u v;have U:=Qqq (g.k 0);have r1:=Qqq (g.k 1);have r2:=Qqq (g.k 2);have V:=Qqq t.2.2.2.1;have r4:=Qqq t.1.2.1;clear D;unfold Hd.val;cases h1:inB x.o 0 ((s.os.n:Int)-1)
 .go_enter func202,ntmps202;go_wp2_with fail;rw[B.o];refine Qxq ko ko ?_
  repeat(go_big_quiet_step((go_at_call 98;exact Xxz ((im _ _ _ Cz).mono (λ_ _ h=>⟨h.1,h.2▸Below.refl _ _⟩)))))
  refine Qqz ?_;intro _ f;obtain⟨⟨Q,H⟩,c⟩:=f;subst c;go_wp2_with fail;go_ret;exact⟨by simp[jo,h1],a.trans ((Qxx _ _ _).mono a.size)⟩
 obtain⟨m,i⟩:=Qzz (ar h1).1;have F:m<s.os.n:=Nw;obtain⟨b,o,r,hb,-,J,E⟩:=os.ods m F;have T:(s.os.z m).ls.n<=maxLen:=Qzx E.le E.cap;have K:Hid (jo p s x=(!inB x.l 0 (((s.os.z m).ls.n:Int)-1) || !inB x.b 0 ((p.nb:Int)-1))):=by
  show jo p s x=_;unfold jo;rw[h1,i,Int.toNat_natCast]
  rfl
 rw[i] at U h1;simp only[r] at V;have r5:=Qqq J;have m1:(0:Int)<=(m:Int):=ow;have m2:(m:Int)<(s.os.n:Int):=ow;have M:=hid i;clear i r J os t X g
 generalize (s.os.z m).ls=L at *
 cases S:inB x.l 0 ((L.n:Int)-1)
 .exact auc
 exact auc
theorem X4(p:Pl)(s:St)(w:World)(v:p.At w)(hs:s.At w):
  Calls prog 150 #[p.val,s.val] w λe w'=>e = .returned (.bool (ig p s))/\Bw w w':=by
 have X:=ku w p s 25 36;have a:=dx w (.cells #[.slice p.ab p.nb p.cb,.slice p.sa p.ns p.cs] 25) (.cells s.cells 36);have j:=hs.hs.cap;have r:=hs.hs.le;have f:=v.below a;have c:=hs.below a;unfold Pl.val St.val;go_enter func150,ntmps150;go_wp2_with fail;obtain⟨W,g⟩:∃W,((w.alloc (.cells #[.slice p.ab p.nb p.cb,.slice p.sa p.ns p.cs] 25)).alloc (.cells s.cells 36))=W:=⟨_,rfl⟩;rw[g] at X a f c;unfold St.cells at g;rw[g];clear g;refine(xh s.hs W c.hs).mono ?_;rintro e w1 ⟨rfl,b⟩;have l:=X.below b;have d:=a.trans (b.mono a.size);have q:=f.below b;have k:=c.below b;clear X a b f c;by_cases m:ip s.hs.n s.hs.z=0
 .have u:=l;obtain⟨-,x,-,-,y,-⟩:=u;go_wp2_with fail;refine(ayt 202 #[.pointer (some ⟨w.heap.size+1,0,none⟩),.pointer (some ⟨w.heap.size,0,none⟩)] (λi=>jo p s (s.hs.z i)) _ _ _ _ r j s.hs.z k.hs.hds (enters_of func202 ko rfl) (λi t hi h => ?_)).mono ?_
  .exact Wj w.heap.size (w.heap.size+1) p s _ t (q.below h) (k.os.below h) (l.below h)
  rintro e t ⟨rfl,o⟩;go_wp2_with fail;go_ret;exact⟨by simp[ig,m],d.trans (o.mono d.size)⟩
 go_wp2_with fail;go_ret;exact⟨by simp[ig,m],d⟩
theorem ai5(x:Hd)(w:World):
  Calls prog 209 #[x.val] w λe w'=>e = .returned (.bool (kx x))/\Bw w w':=by
 unfold kx Hd.val;go_enter func209,ntmps209;exact ab9
theorem Wu(k:Int)(x:Hd)(kept:Int)(w:World)(g:0<=x.b/\x.b<=200)(i:0<=x.n/\x.n<=200)(j:0<=kept/\kept<=14400):
  Calls prog 211 #[.int .i64 k,x.val,.int .i64 kept] w λe w'=>e = .returned (.bool (dh k x kept))/\Bw w w':=by
 unfold Hd.val;by_cases c:k=0
 .have a:Hid (dh k x kept=(!(x.b==0) || !(x.n==0) || !(kept==0))):=by show dh k x kept=_;simp only[dh,if_pos c]
  rw[a.o];subst c;clear a;cases f:(x.b==0)
  .exact N5
  cases m:(x.n==0)
  .exact N5
  exact N5
 by_cases d:k=2
 .have a:Hid (dh k x kept=(!(x.b+x.n==x.l) || !(kept==0))):=by show dh k x kept=_;simp only[dh,if_neg c,if_pos d]
  rw[a.o];subst d;clear a c;cases f:(x.b+x.n==x.l)
  .exact N5
  exact N5
 have a:Hid (dh k x kept = !(x.b+x.n+kept==x.l)):=by show dh k x kept=_;simp only[dh,if_neg c,if_neg d]
 rw[a.o];clear a;go_enter func211,ntmps211;go_wp2_with fail
 all_goals go_ret
 all_goals exact⟨rfl,brf.alloc nlr _⟩
theorem aix{k:Nat}(f:cu p s)(hs:s.os.At w)(D:k<s.hs.n):
  ∃(c b b1 e b2 g N C:Nat),(s.hs.z k).o=(c:Int)/\(s.hs.z k).l=(b:Int)/\c<s.os.n/\b<N/\N<=C/\C<=maxLen/\s.os.a=some ⟨b1,e,none⟩/\b1<w.heap.size/\b2<w.heap.size /\
   w.cell? ⟨b1,e+c*2+1,none⟩=some (.slice (some ⟨b2,g,none⟩) N C)/\w.cell? ⟨b2,g+b*4,none⟩=some (.int .i64 (kf s (s.hs.z k))):=by
 obtain⟨⟨y,a1⟩,⟨l0,d⟩,-⟩:=je (f.home k D);obtain⟨c,v⟩:=Qzz y;obtain⟨b,u⟩:=Qzz l0;have j:(s.hs.z k).o.toNat=c:=ow;have m:(s.hs.z k).l.toNat=b:=ow;have B:kf s (s.hs.z k)=((s.os.z c).ls.z b).o:=by unfold kf;rw[j,m]
 rw[j] at a1 d;rw[m] at d;obtain⟨b1,e,A,r,-,x,i⟩:=hs.ods c a1;obtain⟨b2,g,q,t,E,-⟩:=i.hds b d;rw[q] at x;exact⟨c,b,b1,e,b2,g,_,_,v,u,a1,d,i.le,i.cap,A,r,t,x,by rw[B];exact E⟩
theorem Rc{b g:Int}{k:Nat}(a:(s.hs.z k).b=b)(c:kf s (s.hs.z k)=g):ce s b g (k+1)=ce s b g k+(s.hs.z k).n:=by simp only[ce];rw[if_pos ⟨a,c⟩]
theorem Pk{b g:Int}{k:Nat}(h:¬((s.hs.z k).b=b/\kf s (s.hs.z k)=g)):ce s b g (k+1)=ce s b g k:=by simp only[ce];rw[if_neg h,Int.add_zero]
theorem Ki{b g:Int}{k:Nat}(a:(s.ms.z k).l=b)(c:(s.ms.z k).o=g):bp s b g (k+1)=bp s b g k+(s.ms.z k).n:=by simp only[bp];rw[if_pos ⟨a,c⟩]
theorem Pj{b g:Int}{k:Nat}(h:¬((s.ms.z k).l=b/\(s.ms.z k).o=g)):bp s b g (k+1)=bp s b g k:=by simp only[bp];rw[if_neg h,Int.add_zero]
theorem U4(p:Pl)(s:St)(bin good:Nat)(w:World)(hs:s.At w)(f:cu p s)(a8:bin<p.nb)(Y:good<p.ns):
  Calls prog 191 #[s.val,.int .i64 bin,.int .i64 good] w λe w'=>e = .returned (.int .i64 (aq s bin good))/\Bw w w':=by
 obtain⟨x,af,hWB,F⟩:∃x,w.alloc (.cells s.cells 36)=x/\Bw w x/\Blk x w.heap.size 36 7 (λj=>s.cells.getD j default):=⟨_,rfl,(Below.refl w.heap.size w).alloc nlr _,Blk.mk' rfl rfl⟩;have g:=hs.below hWB;have HC:Hid (∀m,Bw x m->s.At m/\m.cell? ⟨w.heap.size,0,none⟩=some (.slice s.on.a s.on.n s.on.c)/\m.cell? ⟨w.heap.size,1,none⟩=some (.slice s.os.a s.os.n s.os.c)/\m.cell? ⟨w.heap.size,2,none⟩=some (.slice s.hs.a s.hs.n s.hs.c)/\m.cell? ⟨w.heap.size,3,none⟩=some (.slice s.ms.a s.ms.n s.ms.c)/\w.heap.size<m.heap.size):=
  λm h=>⟨g.below h,(F.below h).k 0,(F.below h).k 1,(F.below h).k 2,(F.below h).k 3,(F.below h).lt⟩
 have A:=f.sh.n;obtain⟨bo,oo,E,bj,y0,y⟩:=hs.on.rows bin ow;have T:=f.sh.len bin ow;have bc:=f.sh.num bin ow good Y;obtain⟨br,bl,ah,bk,y1⟩:=y.ints good ow;have al:=y.le;have ad:=y.cap;have ak:=g.on.le;have ac:=g.on.cap;have a9:=g.hs.le;have aa:=g.hs.cap;have bb:=g.ms.le;have ab:=g.ms.cap;have av:=g.os.le;have S:=g.os.cap;unfold maxLen at ad ac aa ab S;rw[ah] at y0;have bi:=f.hs72;have m8:=f.ms8;have HB:Hid (∀k,k<=s.hs.n->0<=ce s bin good k/\ce s bin good k<=200*k):=λk H=>pd λj hj=>f.holdN j ow;have MB:Hid (∀k,k<=s.ms.n->0<=bp s bin good k/\bp s bin good k<=200*k):=λk H=>lm λj hj=>f.moveN j ow;have HW:Hid (w.alloc (.cells #[.slice (some ⟨bo,oo,none⟩) p.nb s.on.c,.slice s.os.a s.os.n s.os.c,.slice s.hs.a s.hs.n s.hs.c,.slice s.ms.a s.ms.n s.ms.c,.slice s.si.a s.si.n s.si.c,.slice s.so.a s.so.n s.so.c,.slice s.sf.a s.sf.n s.sf.c] 36)=x):=by
  show _=x;rw[<-af,<-E,<-A]
  rfl
 have HN:Hid (s.on.n=p.nb/\(s.on.r bin).n=p.ns/\(s.on.r bin).z good+0=(s.on.r bin).z good):=⟨A,T,Int.add_zero _⟩;have HO:=hid E;rw[T] at y0 al;rw[A] at ak;have q0:(0:Int)<=(bin:Int):=ow;have q1:(0:Int)<=(good:Int):=ow;simp only[St.val,E,A];clear F af y A T E ah;go_enter func191,ntmps191;go_wp2_with fail;rw[HW.o]
 go_loopw [7,23] (λu i m=>∃k:Nat,k<=s.hs.n/\i = .int .i64 k/\u = .int .i64 ((s.on.r bin).z good-ce s bin good k)/\Bw x m) (λ_ i _=>s.hs.n-(intOf i).toNat)
 case atStart=>exact apg
 obtain⟨k,H,rfl,rfl,hB⟩:=hrel;have m1:=HB.o k H;obtain⟨v,X,c1,c2,c3,B⟩:=HC.o wr hB;by_cases K:k<s.hs.n;rotate_left
 .have J:k=s.hs.n:=ow;subst J
  generalize hHH:ce s bin good s.hs.n=HH at *
  have HHH:=hid hHH;clear hHH v;go_wp2_with fail
  go_loopw [7,55] (λu i m=>∃k:Nat,k<=s.ms.n/\i = .int .i64 k/\u = .int .i64 ((s.on.r bin).z good-HH-bp s bin good k)/\Bw x m) (λ_ i _=>s.ms.n-(intOf i).toNat)
  case atStart=>exact⟨0,Qxz _,rfl,by simp[bp],hB⟩
  clear hB X c1 c2 c3 B;obtain⟨k,H,rfl,rfl,hB⟩:=hrel;have m2:=MB.o k H;by_cases L:k<s.ms.n;rotate_left
  .have J:k=s.ms.n:=ow;subst J;exact aoe
  obtain⟨v,X,c1,c2,c3,B⟩:=HC.o wr hB;obtain⟨b,q,ag,hb,z0,z1,z2,z3⟩:=v.ms.hds k L;have m3:=f.moveN k L;have H1:Hid (((s.ms.z k).l=bin/\(s.ms.z k).o=good->bp s bin good (k+1)=bp s bin good k+(s.ms.z k).n)/\(¬((s.ms.z k).l=bin/\(s.ms.z k).o=good)->bp s bin good (k+1)=bp s bin good k)):=⟨λh=>Ki h.1 h.2,Pj⟩;have q4:(0:Int)<=(k:Int):=ow;have t:=λo=>hB.alloc (Qzx hB.size nlr) o;have ae:=hid t;rw[ag];clear ag X c1 c2 c3 v t
  generalize bp s bin good k=U at *
  generalize (s.ms.z k).l=BB at *
  generalize (s.ms.z k).n=NN at *
  generalize (s.ms.z k).o=GD at *
  cases h1:(BB==(bin:Int))
  .exact avi
  cases h2:(GD==(good:Int))
  .have h1:=h2;exact avi
  have hm:=H1.o.1 ⟨xp,Bb⟩;have HM:=hid hm;clear hm H1;go_wp2_with fail;go_roundw
  case rel=>exact⟨k+1,ow,vo,alq,ae.o _⟩
  case measure=>simp[intOf];omega
 obtain⟨b,q,G,hb,z0,z1,z2,z3⟩:=v.hs.hds k K;have m2:=f.holdN k K;obtain⟨W,V,b1,o1,b2,o2,N,C,Q,M,g1,g2,g3,g4,D,g5,g6,g7,g8⟩:=aix f v.os K;have HG:=qa4 G D Q M;obtain⟨W1,hW1,hB1,hY⟩:∃W1,wr.alloc (.cells #[.int .i64 W,.int .i64 V,.int .i64 (s.hs.z k).b,.int .i64 (s.hs.z k).n] 107)=W1/\Bw x W1/\Blk W1 wr.heap.size 107 4 (λj=>(#[.int .i64 W,.int .i64 V,.int .i64 (s.hs.z k).b,.int .i64 (s.hs.z k).n]:Array Value).getD j default):=⟨_,rfl,hB.alloc hB.size _,Blk.mk' rfl rfl⟩;have t:Bw wr W1:=Z8;have r0:=Qqq (hY.k 0);have r1:=Qqq (hY.k 1);have r2:=Qqq (hY.k 2);have r3:=Qqq (hY.k 3);rw[D] at c1;rw[Q] at z0;rw[M] at z1;have r4:∀d os,(grow (redrawn W1 d) os).cell? ⟨w.heap.size,1,none⟩=some (.slice (some ⟨b1,o1,none⟩) s.os.n s.os.c):=λd os=>Qqq ((t.cell (p:=⟨w.heap.size,1,none⟩) B).trans c1) d os;have r5:∀d os,(grow (redrawn W1 d) os).cell? ⟨b1,o1+W*2+1,none⟩=some (.slice (some ⟨b2,o2,none⟩) N C):=λd os=>Qqq ((t.cell (p:=⟨b1,o1+W*2+1,none⟩) g5).trans g7) d os;have r6:∀d os,(grow (redrawn W1 d) os).cell? ⟨b2,o2+V*4,none⟩=some (.int .i64 (kf s (s.hs.z k))):=λd os=>Qqq ((t.cell (p:=⟨b2,o2+V*4,none⟩) g6).trans g8) d os;have HV:=hid hW1;have q2:(0:Int)<=(W:Int):=ow;have q3:(0:Int)<=(V:Int):=ow;have q4:(0:Int)<=(k:Int):=ow;have H1:Hid (((s.hs.z k).b=bin/\kf s (s.hs.z k)=good->ce s bin good (k+1)=ce s bin good k+(s.hs.z k).n)/\(¬((s.hs.z k).b=bin/\kf s (s.hs.z k)=good)->ce s bin good (k+1)=ce s bin good k)):=⟨λh=>Rc h.1 h.2,Pk⟩;rw[G];unfold maxLen at g4;clear Q M D G hW1 X c1 c2 c3 v t
 generalize kf s (s.hs.z k)=GD at *
 generalize ce s bin good k=U at *
 generalize (s.hs.z k).b=BB at *
 generalize (s.hs.z k).n=NN at *
 cases h1:(BB==(bin:Int))
 .exact ag5
 cases h2:(GD==(good:Int))
 .exact at1
 have hm:=H1.o.1 ⟨xp,Bb⟩;have HM:=hid hm;clear hm H1;go_wp2_with fail;rw[HV.o];refine Qxq ko ko ?_
 repeat(go_big_quiet_step(fail))
 refine Qqz ?_;intro _ hw';obtain⟨⟨dq,osq⟩,hw''⟩:=hw';subst hw'';have hC:=hB1.trans ((Qxx W1 dq osq).mono hB1.size);have hn3:=r3 dq osq;have hlw:wr.heap.size<(grow (redrawn W1 dq) osq).heap.size:=Xzx hY.lt (Qxx W1 dq osq).size;clear r0 r1 r2 r3 r4 r5 r6 hY hB1 HV
 generalize grow (redrawn W1 dq) osq=wz at *
 go_wp2_with fail;go_roundw
 case rel=>exact⟨k+1,ow,vo,by rw[HM.o,Int.sub_sub],hC⟩
 case measure=>simp[intOf];omega
theorem Mt(p:Pl)(s:St)(bin good:Nat)(w:World)(hs:s.At w)(f:cu p s):
  Calls prog 110 #[s.val,.int .i64 bin,.int .i64 good] w λe w'=>e = .returned (.int .i64 (ce s bin good s.hs.n+bp s bin good s.ms.n))/\Bw w w':=by
 obtain⟨v,V,hWB,A⟩:∃v,w.alloc (.cells s.cells 36)=v/\Bw w v/\Blk v w.heap.size 36 7 (λj=>s.cells.getD j default):=⟨_,rfl,(Below.refl w.heap.size w).alloc nlr _,Blk.mk' rfl rfl⟩;have r:=hs.below hWB;have aw:w.heap.size<v.heap.size:=A.lt;have HC:Hid (∀t,Bw v t->s.At t/\t.cell? ⟨w.heap.size,1,none⟩=some (.slice s.os.a s.os.n s.os.c)/\t.cell? ⟨w.heap.size,2,none⟩=some (.slice s.hs.a s.hs.n s.hs.c)/\t.cell? ⟨w.heap.size,3,none⟩=some (.slice s.ms.a s.ms.n s.ms.c)/\w.heap.size<t.heap.size):=
  λt h=>⟨r.below h,(A.below h).k 1,(A.below h).k 2,(A.below h).k 3,(A.below h).lt⟩
 have ar:=r.hs.le;have Q:=r.hs.cap;have av:=r.ms.le;have S:=r.ms.cap;have af:=r.os.le;have K:=r.os.cap;unfold maxLen at Q S K;have a1:=f.hs72;have m8:=f.ms8;have HB:Hid (∀k,k<=s.hs.n->0<=ce s bin good k/\ce s bin good k<=200*k):=λk D=>pd λj hj=>f.holdN j ow;have MB:Hid (∀k,k<=s.ms.n->0<=bp s bin good k/\bp s bin good k<=200*k):=λk D=>lm λj hj=>f.moveN j ow;have HW:Hid (w.alloc (.cells #[.slice s.on.a s.on.n s.on.c,.slice s.os.a s.os.n s.os.c,.slice s.hs.a s.hs.n s.hs.c,.slice s.ms.a s.ms.n s.ms.c,.slice s.si.a s.si.n s.si.c,.slice s.so.a s.so.n s.so.c,.slice s.sf.a s.sf.n s.sf.c] 36)=v):=V;simp only[St.val];clear A V;go_enter func110,ntmps110;go_wp2_with fail;rw[HW.o]
 go_loopw [7,8] (λu i t=>∃k:Nat,k<=s.hs.n/\i = .int .i64 k/\u = .int .i64 (ce s bin good k)/\Bw v t) (λ_ i _=>s.hs.n-(intOf i).toNat)
 case atStart=>exact apg
 obtain⟨k,D,rfl,rfl,hB⟩:=hrel;have m1:=HB.o k D;obtain⟨g,c1,c2,c3,x⟩:=HC.o wr hB;by_cases F:k<s.hs.n
 .obtain⟨b,q,B,hb,z0,z1,z2,z3⟩:=g.hs.hds k F;have m2:=f.holdN k F;obtain⟨M,L,b1,o1,b2,o2,N,C,J,H,g1,g2,g3,g4,y,g5,g6,g7,g8⟩:=aix f g.os F;have HG:=qa4 B y J H;obtain⟨W1,hW1,hB1,hY⟩:∃W1,wr.alloc (.cells #[.int .i64 M,.int .i64 L,.int .i64 (s.hs.z k).b,.int .i64 (s.hs.z k).n] 107)=W1/\Bw v W1/\Blk W1 wr.heap.size 107 4 (λj=>(#[.int .i64 M,.int .i64 L,.int .i64 (s.hs.z k).b,.int .i64 (s.hs.z k).n]:Array Value).getD j default):=⟨_,rfl,hB.alloc hB.size _,Blk.mk' rfl rfl⟩;have m:Bw wr W1:=Z8;have r0:=Qqq (hY.k 0);have r1:=Qqq (hY.k 1);have r2:=Qqq (hY.k 2);have r3:=Qqq (hY.k 3);rw[y] at c1;rw[J] at z0;rw[H] at z1;have r4:∀d os,(grow (redrawn W1 d) os).cell? ⟨w.heap.size,1,none⟩=some (.slice (some ⟨b1,o1,none⟩) s.os.n s.os.c):=λd os=>Qqq ((m.cell (p:=⟨w.heap.size,1,none⟩) x).trans c1) d os;have r5:∀d os,(grow (redrawn W1 d) os).cell? ⟨b1,o1+M*2+1,none⟩=some (.slice (some ⟨b2,o2,none⟩) N C):=λd os=>Qqq ((m.cell (p:=⟨b1,o1+M*2+1,none⟩) g5).trans g7) d os;have r6:∀d os,(grow (redrawn W1 d) os).cell? ⟨b2,o2+L*4,none⟩=some (.int .i64 (kf s (s.hs.z k))):=λd os=>Qqq ((m.cell (p:=⟨b2,o2+L*4,none⟩) g6).trans g8) d os;have HV:=hid hW1;have q2:(0:Int)<=(M:Int):=ow;have q3:(0:Int)<=(L:Int):=ow;have q4:(0:Int)<=(k:Int):=ow;have H1:Hid (((s.hs.z k).b=bin/\kf s (s.hs.z k)=good->ce s bin good (k+1)=ce s bin good k+(s.hs.z k).n)/\(¬((s.hs.z k).b=bin/\kf s (s.hs.z k)=good)->ce s bin good (k+1)=ce s bin good k)):=⟨λh=>Rc h.1 h.2,Pk⟩;rw[B] at c2;unfold maxLen at g4;clear J H y B hW1 c1 c3 g m
  generalize kf s (s.hs.z k)=Y at *
  generalize ce s bin good k=U at *
  generalize (s.hs.z k).b=X at *
  generalize (s.hs.z k).n=NN at *
  cases h1:(X==(bin:Int))
  .exact ag5
  cases h2:(Y==(good:Int))
  .exact at1
  have hm:=H1.o.1 ⟨xp,Bb⟩;exact ay3
 have E:k=s.hs.n:=ow;subst E
 generalize hHH:ce s bin good s.hs.n=HH at *
 have HHH:=hid hHH;clear hHH g;go_wp2_with fail
 go_loopw [7,10] (λu i t=>∃k:Nat,k<=s.ms.n/\i = .int .i64 k/\u = .int .i64 (HH+bp s bin good k)/\Bw v t) (λ_ i _=>s.ms.n-(intOf i).toNat)
 case atStart=>exact⟨0,Qxz _,rfl,by simp[bp],hB⟩
 clear hB c1 c2 c3 x;obtain⟨k,D,rfl,rfl,hB⟩:=hrel;have m2:=MB.o k D;by_cases G:k<s.ms.n;rotate_left
 .have E:k=s.ms.n:=ow;subst E;obtain⟨g,c1,c2,c3,x⟩:=HC.o wr hB;clear g c1 c2;exact aoe
 obtain⟨g,c1,c2,c3,x⟩:=HC.o wr hB;obtain⟨b,q,W,hb,z0,z1,z2,z3⟩:=g.ms.hds k G;have m3:=f.moveN k G;have H1:Hid (((s.ms.z k).l=bin/\(s.ms.z k).o=good->bp s bin good (k+1)=bp s bin good k+(s.ms.z k).n)/\(¬((s.ms.z k).l=bin/\(s.ms.z k).o=good)->bp s bin good (k+1)=bp s bin good k)):=⟨λh=>Ki h.1 h.2,Pj⟩;have q4:(0:Int)<=(k:Int):=ow;have m:=hB;have T:=hid m;rw[W] at c3;clear W c1 c2 g m
 generalize bp s bin good k=U at *
 generalize (s.ms.z k).l=X at *
 generalize (s.ms.z k).n=NN at *
 generalize (s.ms.z k).o=Y at *
 cases h1:(X==(bin:Int))
 .exact avk
 cases h2:(Y==(good:Int))
 .have h1:=h2;exact avk
 have hm:=H1.o.1 ⟨xp,Bb⟩;have HM:=hid hm;clear hm H1;go_wp2_with fail;go_roundw
 case rel=>exact⟨k+1,ow,vo,by rw[HM.o,Int.add_assoc],T.o⟩
 case measure=>simp[intOf];omega
theorem axl{s:Sh}(a:fk p s=0)(b:g<p.ns):Lt p s (g:Int)=0/\Qe p s (g:Int)=cq (λi=>(s.r i).z g) s.n:=by
 have h:Lt p s (g:Int)=0:=by
  unfold Lt;rw[a,cy ⟨ow,ow⟩]
  rfl
 exact⟨h,by simp[Qe,h]⟩
theorem s9:i7 p s g=(!(cq (λi=>(s.on.r i).z g) s.on.n==s.si.z g-s.so.z g+s.sf.z g)||aw p.nb (λb=>decide (aq s b g<0))):=rfl
theorem Ux(p:Pl)(s:St)(w:World)(hp:p.At w)(hs:s.At w)(f:cu p s):
  Calls prog 153 #[p.val,s.val] w λe w'=>e = .returned (.bool (mh p s))/\Bw w w':=by
 obtain⟨W0,hW,k,X0⟩:=Lf w p s;have H:Hid (∀q,Bw W0 q->jj q w.heap.size (w.heap.size+1) p s/\p.At q/\s.At q):=λq h=>⟨X0.below h,(hp.below k).below h,(hs.below k).below h⟩;have HW:=hid hW;have ns3:=f.sh.pl.ns3;have nb6:=f.sh.pl.nb6;have d:=hid f;have ah:Hid (∀g,g<p.ns->0<=cq (λi=>(s.on.r i).z g) s.on.n/\cq (λi=>(s.on.r i).z g) s.on.n<=1200):=λg hg=>by
  have:=G5 (z:=λi=>(s.on.r i).z g) (n:=s.on.n) (λj hj=>f.sh.num j hj g hg) s.on.n nlr;have:=f.sh.n;omega
 clear hW X0 f;unfold Pl.val St.val;go_enter func153,ntmps153;go_wp2_with fail;rw[HW.o]
 go_loopw [12] (λi q=>∃g:Nat,g<=p.ns/\i = .int .i64 g/\(∀j,j<g->i7 p s j=false)/\Bw W0 q) (λi _=>p.ns-(intOf i).toNat)
 case atStart=>exact vu
 obtain⟨g,hg,rfl,u,m⟩:=hrel;have HN:=hid u;clear u;by_cases c:g<p.ns;rotate_left
 .go_wp2_with fail;go_ret;exact⟨by rw[mh,dj λj hj=>HN.o j ow];rfl,k.trans (m.mono k.size)⟩
 obtain⟨X,l,a⟩:=H.o wr m;obtain⟨⟨G,d0,d1⟩,o,D,-⟩:=X;obtain⟨T,U⟩:=axl d.o.sh0 c;go_wp2_with fail;refine(avs p s.on g wr l a.on).mono ?_;rintro e w1 ⟨rfl,M⟩;rw[T,U];clear T U G o d0 d1 D l a;have v:=m.trans (M.mono m.size);clear M;obtain⟨X,l,a⟩:=H.o w1 v;obtain⟨-,o,-,-,-,-,e4,e5,e6⟩:=X;obtain⟨b1,o1,a1,g1,y1⟩:=a.si.ints g (by rw[d.o.sin];exact c);obtain⟨b2,o2,a2,g2,y2⟩:=a.so.ints g (by rw[d.o.son];exact c);obtain⟨b3,o3,a3,g3,y3⟩:=a.sf.ints g (by rw[d.o.sfn];exact c);have u1:=d.o.sib g c;have u2:=d.o.sob g c;have u3:=d.o.sfb g c;have u4:=ah.o g c;rw[a1,d.o.sin] at e4;rw[a2,d.o.son] at e5;rw[a3,d.o.sfn] at e6;have v1:=a.si.le;have v2:=a.so.le;have v3:=a.sf.le;have v4:=a.si.cap;have v5:=a.so.cap;have v6:=a.sf.cap;rw[d.o.sin] at v1;rw[d.o.son] at v2;rw[d.o.sfn] at v3;unfold maxLen at v4 v5 v6;have r1:=Qqq e4;have r2:=Qqq e5;have r3:=Qqq e6;have r4:=Qqq y1;have r5:=Qqq y2;have r6:=Qqq y3;have q1:(0:Int)<=(g:Int):=ow;have J:Hid (i7 p s g=(!(cq (λi=>(s.on.r i).z g) s.on.n==s.si.z g-s.so.z g+s.sf.z g)||aw p.nb (λb=>decide (aq s b g<0)))):=s9;clear e4 e5 e6 y1 y2 y3 a1 a2 a3 l a m
 generalize cq (λi=>(s.on.r i).z g) s.on.n=A at *
 generalize s.si.z g=W at *
 generalize s.so.z g=Y at *
 generalize s.sf.z g=I3 at *
 go_wp2_with fail;refine Qxq ko ko ?_
 repeat(go_big_quiet_step(fail))
 refine Qqz ?_;intro _ ao;obtain⟨⟨dq,V⟩,af⟩:=ao;subst af;have L:=v.trans ((Qxx w1 dq V).mono v.size);clear r1 r2 r3 r4 r5 r6 v
 generalize grow (redrawn w1 dq) V=wz at *
 cases x:(A==W-Y+I3)
 .have K:Hid (i7 p s g=true):=by show i7 p s g=true;rw[J.o,x];rfl
  have t:(A !=W-Y+I3)=true:=by simp[bne,x]
  rw[t];clear x t J;go_wp2_with fail;go_ret;exact⟨by rw[mh,ir c K.o];rfl,k.trans (L.mono k.size)⟩
 have t:(A !=W-Y+I3)=false:=by simp[bne,x]
 have K:Hid (i7 p s g=aw p.nb (λb=>decide (aq s b g<0))):=by show i7 p s g=_;rw[J.o,x];rfl
 rw[t];clear x t J;obtain⟨X,l,a⟩:=H.o wz L;obtain⟨⟨G,d0,d1⟩,o,D,c1,c2,c3,c4,c5,c6⟩:=X;clear D c1 c2 c3 c4 c5 c6 d1 l a;have bf:=hp.leb;have ap:=hp.capb;unfold maxLen at ap;go_wp2_with fail
 go_loopw [45] (λi q=>∃b:Nat,b<=p.nb/\i = .int .i64 b/\(∀j,j<b->decide (aq s j g<0)=false)/\Bw W0 q) (λi _=>p.nb-(intOf i).toNat)
 case atStart=>exact⟨0,Qxz _,rfl,λj hj=>absurd hj (Qzq _),L⟩
 clear L G o d0;obtain⟨b,hb,rfl,u,m⟩:=hrel;have HM:=hid u;clear u;by_cases S:b<p.nb;rotate_left
 .have B:Hid (i7 p s g=false):=by show i7 p s g=false;rw[K.o];exact dj λj hj=>HM.o j ow
  go_wp2_with fail;go_roundw
  case measure=>simp[intOf];omega
  refine⟨g+1,ow,vo,?_,m⟩;intro j hj;by_cases F:j=g
  .rw[F];exact B.o
  exact Hi
 obtain⟨X,l,a⟩:=H.o wr m;obtain⟨-,o,D,c1,c2,c3,c4,c5,c6⟩:=X;go_wp2_with fail;refine(U4 p s b g wr a d.o S c).mono ?_;rintro e w2 ⟨rfl,Q⟩;clear o D c1 c2 c3 c4 c5 c6 l a;have v:=m.trans (Q.mono m.size);clear Q;cases y:decide (aq s b g<0)
 .have B:=hid y;have E:¬aq s b g<0:=of_decide_eq_false y
  generalize aq s b g=AV at E ⊢
  clear y;go_wp2_with fail;go_roundw
  case measure=>simp[intOf];omega
  refine⟨b+1,ow,vo,?_,v⟩;intro j hj;by_cases F:j=b
  .rw[F];exact B.o
  exact HM.o j ow
 have B:Hid (i7 p s g=true):=by show i7 p s g=true;rw[K.o];exact ir S y
 have E:aq s b g<0:=of_decide_eq_true y
 generalize aq s b g=AV at E ⊢
 clear y;go_wp2_with fail;go_ret;exact⟨by rw[mh,ir c B.o];rfl,k.trans (v.mono k.size)⟩
theorem awf{s:Hs}{o l:Int}(h:aw s.n (df s.z)=false):(if ip s.n s.z=0 then keptS s.z o l s.n else 0)=keptS s.z o l s.n/\ip s.n s.z=0:=by
 have:ip s.n s.z=0:=by simp[ip,h]
 exact⟨if_pos this,this⟩
theorem Mi:cp s i=(((s.os.z i).k==1 && !aw (s.os.z i).ls.n (λj=>kx ((s.os.z i).ls.z j)))||aw (s.os.z i).ls.n (λj=>dh (s.os.z i).k ((s.os.z i).ls.z j) (keptS s.hs.z i j s.hs.n))):=rfl
theorem Tq(p:Pl)(s:St)(w:World)(hs:s.At w)(f:cu p s):
  Calls prog 154 #[s.val] w λe w'=>e = .returned (.bool (me s))/\Bw w w':=by
 obtain⟨x,ar,r,hX⟩:∃x,w.alloc (.cells s.cells 36)=x/\Bw w x/\Blk x w.heap.size 36 7 (λj=>s.cells.getD j default):=⟨_,rfl,(Below.refl w.heap.size w).alloc nlr _,Blk.mk' rfl rfl⟩;have a0:=hs.below r;have HC:Hid (∀g,Bw x g->s.At g/\g.cell? ⟨w.heap.size,2,none⟩=some (.slice s.hs.a s.hs.n s.hs.c)/\w.heap.size<g.heap.size):=
  λg h=>⟨a0.below h,(hX.below h).k 2,(hX.below h).lt⟩
 have HW:Hid (w.alloc (.cells #[.slice s.on.a s.on.n s.on.c,.slice s.os.a s.os.n s.os.c,.slice s.hs.a s.hs.n s.hs.c,.slice s.ms.a s.ms.n s.ms.c,.slice s.si.a s.si.n s.si.c,.slice s.so.a s.so.n s.so.c,.slice s.sf.a s.sf.n s.sf.c] 36)=x):=ar;have os4:=f.os4;have bs:=hs.os.le;have ap:=hs.os.cap;have b4:=f.hs72;have HF:=hid f;unfold maxLen at ap;clear ar hX a0 f;unfold St.val;go_enter func154,ntmps154;go_wp2_with fail;rw[HW.o]
 go_loopw [12] (λi g=>∃k:Nat,k<=s.os.n/\i = .int .i64 k/\(∀j,j<k->cp s j=false)/\Bw x g) (λi _=>s.os.n-(intOf i).toNat)
 case atStart=>exact vu
 obtain⟨i,hi,rfl,D,X⟩:=hrel;have HN:=hid D;clear D;by_cases hlt:i<s.os.n;rotate_left
 .go_wp2_with fail;go_ret;exact⟨by rw[me,dj λj hj=>HN.o j ow];rfl,r.trans (X.mono r.size)⟩
 obtain⟨E,c2,av⟩:=HC.o wr X;obtain⟨b,o,az,hb,z0,z1,hl⟩:=E.os.ods i hlt;have q1:(0:Int)<=(i:Int):=ow;have U:Hid (cp s i=(((s.os.z i).k==1 && !aw (s.os.z i).ls.n (λj=>kx ((s.os.z i).ls.z j)))||aw (s.os.z i).ls.n (λj=>dh (s.os.z i).k ((s.os.z i).ls.z j) (keptS s.hs.z i j s.hs.n)))):=Mi;have HL:Hid (∀j,j<(s.os.z i).ls.n->(0<=((s.os.z i).ls.z j).b/\((s.os.z i).ls.z j).b<=200)/\(0<=((s.os.z i).ls.z j).n/\((s.os.z i).ls.z j).n<=200)/\0<=keptS s.hs.z i j s.hs.n/\keptS s.hs.z i j s.hs.n<=14400):=λj hj=>am8;have n3:=(HF.o.lns i hlt).2;have HB:=hid hb;rw[az];clear az E c2
 generalize (s.os.z i).k=q at *
 generalize (s.os.z i).ls=d at *
 obtain⟨Q,ae,y,hY⟩:∃Q,wr.alloc (.cells #[.int .i64 q,.slice d.a d.n d.c] 124)=Q/\Bw x Q/\Blk Q wr.heap.size 124 2 (λj=>(#[.int .i64 q,.slice d.a d.n d.c]:Array Value).getD j default):=⟨_,rfl,X.alloc X.size _,Blk.mk' rfl rfl⟩;have HV:=hid ae;have t:d.At Q:=by rw[<-ae];exact hl.below (brf.alloc nlr _)
 clear ae;cases h1:(q==1)
 .have HE2:Hid (cp s i=aw d.n (λj=>dh q (d.z j) (keptS s.hs.z i j s.hs.n))):=by show cp s i=_;rw[U.o,h1];rfl
  clear U;go_wp2_with fail;rw[HV.o];have ad:=y;have ai:=t;have B:=hY;clear y t hY HV;obtain⟨S,rfl⟩:∃S,S=Q:=⟨_,rfl⟩;exact axt
 have a9:=t.le;have L:=t.cap;have a8:=L;unfold maxLen at a8;go_wp2_with fail;rw[HV.o];refine(Qw 209 #[] (λj=>kx (d.z j)) _ _ _ _ a9 L d.z t.hds (enters_of func209 ko rfl) (λi w1 _ _=>by rw[Array.append_empty];exact ai5 _ _)).mono ?_;rintro e S ⟨rfl,H⟩;have F:=y.trans (H.mono y.size);have ag:=t.below H;have K:=hY.below H;have d1:=K.cell (j:=1) vq;have bf:S.cell? ⟨wr.heap.size,1,none⟩=some (.slice d.a d.n d.c):=d1;have a6:=K.lt;clear d1 H;cases h2:aw d.n (λj=>kx (d.z j))
 .have G:Hid (cp s i=true):=by show cp s i=true;rw[U.o,h1,h2];rfl
  clear h2;go_wp2_with fail;go_ret;exact⟨as6,r.trans (F.mono r.size)⟩
 have HE2:Hid (cp s i=aw d.n (λj=>dh q (d.z j) (keptS s.hs.z i j s.hs.n))):=by show cp s i=_;rw[U.o,h1,h2];rfl
 clear U h2;go_wp2_with fail;clear bf a6;have ad:=F;have ai:=ag;have B:=K;clear y t hY HV F ag K;exact axt
def l9(p:Pl)(s:St):Bool := !(mh p s||me s)
theorem aeb(a:g<p.ns)(h:i7 p s g=true):l9 p s=false:=by
 have:mh p s=true:=ir a h;simp[l9,this]
theorem Zx(hi:i<s.os.n)(h:cp s i=true):l9 p s=false:=by
 have:me s=true:=ir hi h;simp[l9,this]
theorem axh(c:∀g,g<p.ns->i7 p s g=false)(d:∀i,i<s.os.n->cp s i=false):l9 p s=true:=by
 have a:mh p s=false:=dj c;have b:me s=false:=dj d;simp[l9,a,b]
theorem ayl(h:¬cq (λi=>(s.on.r i).z g) s.on.n=s.si.z g-s.so.z g+s.sf.z g):i7 p s g=true:=by
 rw[s9];have:(cq (λi=>(s.on.r i).z g) s.on.n==s.si.z g-s.so.z g+s.sf.z g)=false:=Hb;rw[this];rfl
theorem ar1(a:b<p.nb)(h:(s.on.r b).z g<ce s b g s.hs.n+bp s b g s.ms.n):i7 p s g=true:=by
 rw[s9,ir a (decide_eq_true (by unfold aq;omega)),Bool.or_true]
theorem ay7(h:cq (λi=>(s.on.r i).z g) s.on.n=s.si.z g-s.so.z g+s.sf.z g)(a:∀b,b<p.nb->decide ((s.on.r b).z g<ce s b g s.hs.n+bp s b g s.ms.n)=false):i7 p s g=false:=by
 rw[s9,h,dj λb c => ?_]
 .simp
 have:=of_decide_eq_false (a b c);exact decide_eq_false (by unfold aq;omega)
def vp(ls:Nat->Hd)(n:Nat):Bool := !aw n (λj=>kx (ls j))
theorem adq(ls:Nat->Hd)(n:Nat):vp ls (n+1)=(vp ls n&&((ls n).b==(ls n).l)):=by
 unfold vp;rw[Hq];simp[kx]
theorem adp{b c:Bool}(h:vp z n=b)(a:((z n).b==(z n).l)=c):vp z (n+1)=(b&&c):=by rw[adq,h,a]
theorem Hp{k:Nat}{f:Nat->Bool}{b:Bool}(h:∀j,j<k->f j=b)(c:f k=b):∀j,j<k+1->f j=b:=λj d=>by
 by_cases a:j=k
 .rw[a];exact c
 exact h j ow
theorem wL0{x:Hd}(a:0<=x.b/\x.b<=200)(c:0<=x.n/\x.n<=200)(d:0<=W/\W<=14400):dh 0 x W = !(x.b+x.n+W==0):=by
 unfold dh;rw[if_pos rfl,Bool.eq_iff_iff];exact aov
theorem wL1{x:Hd}:dh 1 x W = !(x.b+x.n+W==x.l):=by
 unfold dh;rw[if_neg dc,if_neg dc]
theorem wL2{x:Hd}:dh 2 x W=(!(x.b+x.n+W==x.l) || !(W==0)):=by
 unfold dh;rw[if_neg dc,if_pos rfl,Bool.eq_iff_iff];exact aov
theorem ae(h:∃p:Regrown,w'=grow (redrawn w p.d) p.os):Bw w w':=by
 obtain⟨p,rfl⟩:=h;exact Qxx _ _ _
theorem adk{A:World}{B:Nat}(d:Blk w B e 4 f)(c:Bw A w)(a:A.heap.size<=B)(x:Hd):
  ∃W,(((w.setCell ⟨B,0,none⟩ (.int .i64 x.o)).setCell ⟨B,1,none⟩ (.int .i64 x.l)).setCell ⟨B,2,none⟩ (.int .i64 x.b)).setCell ⟨B,3,none⟩ (.int .i64 x.n)=W/\Bw A W /\
   Blk W B e 4 (λj=>(#[.int .i64 x.o,.int .i64 x.l,.int .i64 x.b,.int .i64 x.n]:Array Value).getD j default):=
 ⟨_,rfl,(((c.setCell (p:=⟨B,0,none⟩) a _).setCell (p:=⟨B,1,none⟩) a _).setCell (p:=⟨B,2,none⟩) a _).setCell (p:=⟨B,3,none⟩) a _,
  ((((d.set 0 _).set 1 _).set 2 _).set 3 _).congr (λj g=>by match j,g with|0,_=>rfl|1,_=>rfl|2,_=>rfl|3,_=>rfl)⟩
theorem agm(p:Pl)(s:St)(w:World)(hp:p.At w)(hs:s.At w)(f:cu p s):
  Calls prog 158 #[p.val,s.val] w λe w'=>e = .returned (.bool (l9 p s))/\Bw w w':=by
 obtain⟨W0,hW,dv,X0⟩:=Lf w p s;have HC:=Ic hp hs dv X0;have HW:=hid hW;have leb:=hp.leb;have capb:=hp.capb;have les:=hp.les;have caps:=hp.caps;have e5:=hs.os.le;have dd:=hs.os.cap;unfold maxLen at capb caps dd;have os4:=f.os4;have ew:=f.hs72;have ms8:=f.ms8;have ns3:=f.sh.pl.ns3;have nb6:=f.sh.pl.nb6;have HF:=hid f;clear hW X0 hp hs f;unfold Pl.val St.val;go_enter func158,ntmps158;go_wp2_with fail;rw[HW.o]
 go_loopw [5] (λi m=>∃k:Nat,k<=p.ns/\i = .int .i64 k/\(∀j,j<k->i7 p s j=false)/\Bw W0 m) (λi _=>p.ns-(intOf i).toNat)
 case atStart=>exact vu
 obtain⟨g,hg,rfl,J,hB⟩:=hrel;have HN:=hid J;clear J;obtain⟨X,L,t,hBw⟩:=HC.o wr hB;obtain⟨⟨l1,d0,d1⟩,l2,U,c1,c2,c3,c4,c5,c6⟩:=X;by_cases hlt:g<p.ns;rotate_left
 .have dl:Hid (∀j,j<p.ns->i7 p s j=false):=λj hj=>HN.o j ow;clear HN t L U c1 c2 c3 c4 c5 c6 hBw;go_wp2_with fail;clear d0 d1 l1 l2 hlt hg
  go_loopw [7] (λi m=>∃k:Nat,k<=s.os.n/\i = .int .i64 k/\(∀j,j<k->cp s j=false)/\Bw W0 m) (λi _=>s.os.n-(intOf i).toNat)
  case atStart=>exact C0
  clear hB;obtain⟨i,hi,rfl,J,hB⟩:=hrel;have HN:=hid J;clear J;obtain⟨X,L,t,hBw⟩:=HC.o wr hB;obtain⟨⟨l1,d0,d1⟩,l2,U,c1,c2,c3,c4,c5,c6⟩:=X;by_cases hlt:i<s.os.n;rotate_left
  .have HX:Hid (l9 p s=true):=axh dl.o λj hj=>HN.o j ow;clear t L U c2 c3 c4 c5 c6 d0 d1;exact zx
  obtain⟨b,o,an,hb,Y,z1,hl⟩:=t.os.ods i hlt;have qi:(0:Int)<=(i:Int):=ow;have HL:Hid (∀m,Bw W0 m->m.cell? ⟨b,o+i*2,none⟩=some (.int .i64 (s.os.z i).k)/\m.cell? ⟨b,o+i*2+1,none⟩=some (.slice (s.os.z i).ls.a (s.os.z i).ls.n (s.os.z i).ls.c)/\(s.os.z i).ls.At m/\m.cell? ⟨w.heap.size+1,1,none⟩=some (.slice (some ⟨b,o,none⟩) s.os.n s.os.c)/\w.heap.size+1<m.heap.size/\b<m.heap.size/\Bw w m/\s.hs.At m/\m.cell? ⟨w.heap.size+1,2,none⟩=some (.slice s.hs.a s.hs.n s.hs.c)):=λm h=>by
   obtain⟨X,-,ct,dt⟩:=HC.o m h;obtain⟨-,m2,-,f1,f2,-⟩:=X;obtain⟨b',o',a2,cl,x0,x1,dx⟩:=ct.os.ods i hlt;rw[an] at a2 f1;simp only[co] at a2;obtain⟨rfl,rfl⟩:=a2;exact⟨x0,x1,dx,f1,m2,cl,dt,ct.hs,f2⟩
  have e4:=hl.le;have dc:=hl.cap;have l3:=HF.o.lns i hlt;have kd:=HF.o.kind i hlt;unfold maxLen at dc;have HE:Hid (cp s i=(((s.os.z i).k==1&&vp (s.os.z i).ls.z (s.os.z i).ls.n)||aw (s.os.z i).ls.n (λj=>dh (s.os.z i).k ((s.os.z i).ls.z j) (keptS s.hs.z i j s.hs.n)))):=Mi;have dk:Hid (∀j,j<(s.os.z i).ls.n->(0<=((s.os.z i).ls.z j).b/\((s.os.z i).ls.z j).b<=200)/\(0<=((s.os.z i).ls.z j).n/\((s.os.z i).ls.z j).n<=200)/\0<=keptS s.hs.z i j s.hs.n/\keptS s.hs.z i j s.hs.n<=14400):=λj hj=>am8;clear an hl t L U c2 c3 c4 c5 c6 Y z1 d0 d1 hBw hb
  generalize (s.os.z i).k=H at *
  generalize (s.os.z i).ls=A at *
  go_wp2_with fail;clear c1 l1 l2
  go_loopw [8,9] (λu i0 m=>∃k:Nat,k<=A.n/\i0 = .int .i64 k/\u = .bool (vp A.z k)/\Bw W0 m) (λ_ i0 _=>A.n-(intOf i0).toNat)
  case atStart=>exact⟨0,Qxz _,rfl,rfl,hB⟩
  clear hB;obtain⟨j,hj,rfl,rfl,hB⟩:=hrel;obtain⟨Y,z1,W,c1,l2,hb,hBw,-,-⟩:=HL.o wr hB;by_cases hlj:j<A.n;rotate_left
  .have dw:j=A.n:=ow;subst dw;cases hN:vp A.z A.n
   .have HE2:Hid (cp s i=aw A.n (λj=>dh H (A.z j) (keptS s.hs.z i j s.hs.n))):=by show cp s i=_;rw[HE.o,hN,Bool.and_false,Bool.false_or]
    clear hN HE;go_wp2_with fail;exact axs
   cases bn:(H==1)
   .have HE2:Hid (cp s i=aw A.n (λj=>dh H (A.z j) (keptS s.hs.z i j s.hs.n))):=by show cp s i=_;rw[HE.o,bn,Bool.false_and,Bool.false_or]
    clear hN HE;go_wp2_with fail;clear bn;exact axs
   have HX:Hid (l9 p s=false):=Zx hlt (by rw[HE.o,hN,bn];rfl);exact ab4
  obtain⟨b2,o2,av,cm,y0,y1,y2,y3⟩:=W.hds j hlj;have qj:(0:Int)<=(j:Int):=ow;rw[av] at z1;have r0:=Qqq c1;have r1:=Qqq z1;have r2:=Qqq y1;have r3:=Qqq y2;have a5:Hid (∀b c,vp A.z j=b->((A.z j).b==(A.z j).l)=c->vp A.z (j+1)=(b&&c)):=λ_ _ h1 D=>adp h1 D;clear av W y0 y1 y2 y3
  generalize (A.z j).l=WN at *
  generalize (A.z j).b=GT at *
  cases h1:vp A.z j
  .have HX:Hid (vp A.z (j+1)=false):=a5.o _ _ h1 rfl;exact ag9
  cases D:(GT==WN)
  .have HX:Hid (vp A.z (j+1)=false):=a5.o _ _ h1 D;exact ag9
  have HX:Hid (vp A.z (j+1)=true):=a5.o _ _ h1 D;exact ag9
 have qg:(0:Int)<=(g:Int):=ow;have F:=HF.o;obtain⟨b1,o1,e1,g1,z1⟩:=t.si.ints g (by rw[F.sin];exact hlt);obtain⟨b2,o2,e2,g2,z2⟩:=t.so.ints g (by rw[F.son];exact hlt);obtain⟨b3,o3,e3,g3,z3⟩:=t.sf.ints g (by rw[F.sfn];exact hlt);have v1:=t.si.le;have v2:=t.so.le;have v3:=t.sf.le;have v4:=t.si.cap;have v5:=t.so.cap;have v6:=t.sf.cap;have u1:=F.sib g hlt;have u2:=F.sob g hlt;have u3:=F.sfb g hlt;unfold maxLen at v4 v5 v6;have cg:=hid t.on;rw[e1,F.sin] at c4;rw[e2,F.son] at c5;rw[e3,F.sfn] at c6;rw[F.sin] at v1;rw[F.son] at v2;rw[F.sfn] at v3;have r0:=Qqq U;have r4:=Qqq c4;have r5:=Qqq c5;have r6:=Qqq c6;have r7:=Qqq z1;have r8:=Qqq z2;have r9:=Qqq z3;have dm:Hid (¬cq (λi=>(s.on.r i).z g) s.on.n=s.si.z g-s.so.z g+s.sf.z g->l9 p s=false):=λh=>aeb hlt (ayl h);have dn:Hid (∀b,b<p.nb->(s.on.r b).z g<ce s b g s.hs.n+bp s b g s.ms.n->l9 p s=false):=λb hb h=>aeb hlt (ar1 hb h);have dp:Hid (cq (λi=>(s.on.r i).z g) s.on.n=s.si.z g-s.so.z g+s.sf.z g->(∀b,b<p.nb->decide ((s.on.r b).z g<ce s b g s.hs.n+bp s b g s.ms.n)=false)->i7 p s g=false):=λh D=>ay7 h D;have a3:Hid (∀m,s.on.At m->Calls prog 214 #[s.on.val,.int .i64 g] m λe w'=>e = .returned (.int .i64 (cq (λi=>(s.on.r i).z g) s.on.n))/\Bw m w'):=λm h=>ahs p s.on g m h F.sh hlt;unfold Sh.val at a3;clear e1 e2 e3 t L U c1 c2 c3 c4 c5 c6 z1 z2 z3 d0 F
 generalize cq (λi=>(s.on.r i).z g) s.on.n=SM at *
 generalize s.si.z g=I1 at *
 generalize s.so.z g=I2 at *
 generalize s.sf.z g=I3 at *
 go_wp2_with fail;refine Qxq ko ko ?_
 repeat(go_big_quiet_step((go_at_call 214;exact Xxz (a3.o _ (cg.o.below (Qxx _ _ _))))))
 refine Qqz ?_;intro _ ag;obtain⟨⟨dq,ay⟩,Q⟩:=ag;subst Q;have bi:=hB.trans ((Qxx wr dq ay).mono hB.size);clear r0 r4 r5 r6 r7 r8 r9 cg a3 hB hBw l1 l2 d1 g1 g2 g3 v1 v2 v3 v4 v5 v6
 generalize grow (redrawn wr dq) ay=wz at *
 obtain⟨X,L,t,hBw⟩:=HC.o wz bi;obtain⟨⟨l1,d0,d1⟩,l2,U,c1,c2,c3,c4,c5,c6⟩:=X;by_cases am:SM=I1-I2+I3;rotate_left
 .have he:(SM !=I1-I2+I3)=true:=by simp[am]
  have HX:Hid (l9 p s=false):=dm.o am;rw[he];clear am he L t U c1 c2 c3 c4 c5 c6 d0 d1 l1 l2;exact zx
 have he:(SM !=I1-I2+I3)=false:=by simp[am]
 have df:=hid am;rw[he];clear am he L t U c1 c2 c3 c4 c5 c6 hBw;go_wp2_with fail;clear d0 d1 l1 l2
 go_loopw [6] (λi m=>∃k:Nat,k<=p.nb/\i = .int .i64 k/\(∀b,b<k->decide ((s.on.r b).z g<ce s b g s.hs.n+bp s b g s.ms.n)=false)/\Bw W0 m) (λi _=>p.nb-(intOf i).toNat)
 case atStart=>exact⟨0,Qxz _,rfl,λj hj=>absurd hj (Qzq _),bi⟩
 clear bi;obtain⟨b,hb,rfl,J,hB⟩:=hrel;have HM:=hid J;clear J;obtain⟨X,L,t,hBw⟩:=HC.o wr hB;obtain⟨⟨l1,d0,d1⟩,l2,U,c1,c2,c3,c4,c5,c6⟩:=X;by_cases cr:b<p.nb;rotate_left
 .have HA:Hid (i7 p s g=false):=dp.o df.o λb' cl=>HM.o b' ow;clear t L U c1 c2 c3 c4 c5 c6 HM;go_wp2_with fail;go_roundw
  case rel=>exact⟨g+1,ow,vo,Hp HN.o HA.o,hB⟩
  case measure=>simp[intOf];omega
 have qb:(0:Int)<=(b:Int):=ow;have F:=HF.o;have bl:b<s.on.n:=by rw[F.sh.n];exact cr
 obtain⟨bo,oo,an,ex,y0,ar⟩:=t.on.rows b bl;have rn:=F.sh.len b bl;obtain⟨br,e6,cs,ey,y1⟩:=ar.ints g (by rw[rn];exact hlt);have v1:=ar.le;have v2:=ar.cap;have v3:=t.on.le;have v4:=t.on.cap;unfold maxLen at v2 v4;have hx:=pd (s:=s) (b:=b) (g:=g) F.holdN;have hy:=lm (s:=s) (b:=b) (g:=g) F.moveN;have hz:=F.sh.num b bl g hlt;rw[cs,rn] at y0;rw[rn] at v1;rw[an] at U;have bf:=qa2 t an;have r0:=Qqq U;have r1:=Qqq c1;have r2:=Qqq c2;have r3:=Qqq c3;have r4:=Qqq c4;have r5:=Qqq c5;have r6:=Qqq c6;have r7:=Qqq y0;have r8:=Qqq y1;have cn:Hid (∀m,s.At m->Calls prog 110 #[.agg #[.slice (some ⟨bo,oo,none⟩) s.on.n s.on.c,.slice s.os.a s.os.n s.os.c,.slice s.hs.a s.hs.n s.hs.c,.slice s.ms.a s.ms.n s.ms.c,.slice s.si.a s.si.n s.si.c,.slice s.so.a s.so.n s.so.c,.slice s.sf.a s.sf.n s.sf.c],.int .i64 b,.int .i64 g] m λe w'=>e = .returned (.int .i64 (ce s b g s.hs.n+bp s b g s.ms.n))/\Bw m w'):=λm h=>by
  have:=Mt p s b g m h HF.o;rw[St.val,bf.o.2] at this;exact this
 have ch:Hid (((s.on.r b).z g<ce s b g s.hs.n+bp s b g s.ms.n->l9 p s=false)/\(¬(s.on.r b).z g<ce s b g s.hs.n+bp s b g s.ms.n->∀b',b'<b+1->decide ((s.on.r b').z g<ce s b' g s.hs.n+bp s b' g s.ms.n)=false)):=⟨dn.o b cr,λh=>Hp HM.o (decide_eq_false h)⟩;clear an cs ar rn F t L U c1 c2 c3 c4 c5 c6 y0 y1 HM d1
 generalize ce s b g s.hs.n+bp s b g s.ms.n=BD at *
 generalize (s.on.r b).z g=ON at *
 generalize (s.on.r b).c=RC at *
 by_cases hq:ON<BD
 .have HX:Hid (l9 p s=false):=ch.o.1 hq;go_wp2_with fail;refine Qxq ko ko ?_
  repeat(go_big_quiet_step((go_at_call 110;exact Xxz (cn.o _ (bf.o.1.below (Qxx _ _ _))))))
  refine Qqz ?_;intro _ ag;obtain⟨⟨dq,ay⟩,Q⟩:=ag;subst Q;go_wp2_with fail;go_ret;exact⟨ja,hBw.trans ((Qxx _ _ _).mono hBw.size)⟩
 have HX:=ch.o.2 hq;have ad:Hid _:=HX;clear HX;go_wp2_with fail;refine Qxq ko ko ?_
 repeat(go_big_quiet_step((go_at_call 110;exact Xxz (cn.o _ (bf.o.1.below (Qxx _ _ _))))))
 refine Qqz ?_;intro _ ag;obtain⟨⟨dq,ay⟩,Q⟩:=ag;subst Q;go_wp2_with fail;go_roundw
 case rel=>exact⟨b+1,ow,vo,ad.o,hB.trans ((Qxx _ _ _).mono hB.size)⟩
 case measure=>simp[intOf];omega
structure af(s t:St):Prop where
 on:s.on.n=t.on.n/\∀i,i<s.on.n->(s.on.r i).n=(t.on.r i).n/\∀j,j<(s.on.r i).n->(s.on.r i).z j=(t.on.r i).z j
 os:s.os.n=t.os.n/\∀i,i<s.os.n->(s.os.z i).k=(t.os.z i).k/\(s.os.z i).ls.n=(t.os.z i).ls.n/\∀j,j<(s.os.z i).ls.n->(s.os.z i).ls.z j=(t.os.z i).ls.z j
 hs:s.hs.n=t.hs.n/\∀j,j<s.hs.n->s.hs.z j=t.hs.z j
 ms:s.ms.n=t.ms.n/\∀j,j<s.ms.n->s.ms.z j=t.ms.z j
 si:s.si.n=t.si.n/\∀j,j<s.si.n->s.si.z j=t.si.z j
 so:s.so.n=t.so.n/\∀j,j<s.so.n->s.so.z j=t.so.z j
 sf:s.sf.n=t.sf.n/\∀j,j<s.sf.n->s.sf.z j=t.sf.z j
def Boxed(w:World)(B:Nat)(s:St):Prop :=
 B<w.heap.size/\w.cell? ⟨B,0,none⟩=some (.slice s.on.a s.on.n s.on.c)/\w.cell? ⟨B,1,none⟩=some (.slice s.os.a s.os.n s.os.c)/\w.cell? ⟨B,2,none⟩=some (.slice s.hs.a s.hs.n s.hs.c) /\
  w.cell? ⟨B,3,none⟩=some (.slice s.ms.a s.ms.n s.ms.c)/\w.cell? ⟨B,4,none⟩=some (.slice s.si.a s.si.n s.si.c)/\w.cell? ⟨B,5,none⟩=some (.slice s.so.a s.so.n s.so.c)/\w.cell? ⟨B,6,none⟩=some (.slice s.sf.a s.sf.n s.sf.c)
theorem Boxed.of{B:Nat}(h:Blk w B e 7 (λj=>s.cells.getD j default)):Boxed w B s :=
 ⟨h.lt,h.k 0,h.k 1,h.k 2,h.k 3,h.k 4,h.k 5,h.k 6⟩
theorem Zz(h:¬fk p s.on=0):ag p s=fk p s.on:=by unfold ag;rw[if_neg h]
theorem adu(h:fk p s.on=0)(a:gz s=true):ag p s=2:=by unfold ag;rw[if_pos h,if_pos a]
theorem Dz(h:fk p s.on=0)(b:gz s=false)(a:kt p s=true\/ig p s=true\/mm p s=true\/gt p s=true):ag p s=1:=by
 unfold ag;rw[if_pos h,b,if_neg dc,if_pos (by rcases a with a|a|a|a<;>simp[a])]
theorem Cv(h:fk p s.on=0)(a:gz s=false)(b:kt p s=false)(c:ig p s=false)(d:mm p s=false)(e:gt p s=false):ag p s=if mh p s||me s then 7 else 0:=by
 unfold ag;rw[if_pos h,a,if_neg dc,b,c,d,e,if_neg dc]
theorem l8(p:Pl)(s:St)(w:World)(S:p.At w)(hs:s.At w):
  Calls prog 99 #[p.val,s.val] w λe w'=>e = .returned (.int .i64 (ag p s))/\Bw w w':=by
 obtain⟨E,L,M,K⟩:=Lf w p s;have o:=Ic S hs M K;have Q:=hid L;clear L K;unfold Pl.val St.val;go_enter func99,ntmps99;go_wp2_with fail;rw[Q.o];have a:Bw E E:=Below.refl _ _;obtain⟨X,d,b,hBw⟩:=o.o E a;refine(An p s.on E d b.on).mono ?_;rintro e w1 ⟨rfl,c⟩;have a:=a.trans (c.mono a.size);clear c X d b hBw;obtain⟨X,d,b,hBw⟩:=o.o w1 a;by_cases F:fk p s.on=0;rotate_left
 .have HE:Hid (ag p s=fk p s.on):=Zz F;exact app
 have n:=hid F;rw[F];clear F;obtain⟨⟨k,i,j⟩,l,g,c1,c2,c3,c4,c5,c6⟩:=X;go_wp2_with fail;refine(adv s _ b).mono ?_;rintro e T ⟨rfl,c⟩;have f:=a.trans (c.mono a.size);clear k i j l g c1 c2 c3 c4 c5 c6 d b hBw a c;have a:=f;clear f;obtain⟨X,d,b,hBw⟩:=o.o T a;cases q:gz s;rotate_left
 .have m:=hid q;clear q;go_wp2_with fail;go_ret;exact⟨by rw[adu n.o m.o];rfl,hBw⟩
 have m:=hid q;clear q;obtain⟨⟨k,i,j⟩,l,g,c1,c2,c3,c4,c5,c6⟩:=X;go_wp2_with fail;refine(Wl p s _ d b).mono ?_;rintro e U ⟨rfl,c⟩;have f:=a.trans (c.mono a.size);clear k i j l g c1 c2 c3 c4 c5 c6 d b hBw a c;have a:=f;clear f;obtain⟨X,d,b,hBw⟩:=o.o U a;cases r:kt p s;rotate_left
 .have z:=hid r;clear r;go_wp2_with fail;go_ret;exact⟨by rw[Dz n.o m.o (.inl z.o)];rfl,hBw⟩
 have z:=hid r;clear r;obtain⟨⟨k,i,j⟩,l,g,c1,c2,c3,c4,c5,c6⟩:=X;go_wp2_with fail;refine(X4 p s _ d b).mono ?_;rintro e V ⟨rfl,c⟩;have f:=a.trans (c.mono a.size);clear k i j l g c1 c2 c3 c4 c5 c6 d b hBw a c;have a:=f;clear f;obtain⟨X,d,b,hBw⟩:=o.o V a;cases t:ig p s;rotate_left
 .have A:=hid t;clear t;go_wp2_with fail;go_ret;exact⟨by rw[Dz n.o m.o (.inr (.inl A.o))];rfl,hBw⟩
 have A:=hid t;clear t;obtain⟨⟨k,i,j⟩,l,g,c1,c2,c3,c4,c5,c6⟩:=X;go_wp2_with fail;refine(X5 p s _ d b).mono ?_;rintro e W ⟨rfl,c⟩;have f:=a.trans (c.mono a.size);clear k i j l g c1 c2 c3 c4 c5 c6 d b hBw a c;have a:=f;clear f;obtain⟨X,d,b,hBw⟩:=o.o W a;cases u:mm p s;rotate_left
 .have B:=hid u;clear u;go_wp2_with fail;go_ret;exact⟨by rw[Dz n.o m.o (.inr (.inr (.inl B.o)))];rfl,hBw⟩
 have B:=hid u;clear u;obtain⟨⟨k,i,j⟩,l,g,c1,c2,c3,c4,c5,c6⟩:=X;go_wp2_with fail;refine(ac2 p s _ d b).mono ?_;rintro e Y ⟨rfl,c⟩;have f:=a.trans (c.mono a.size);clear k i j l g c1 c2 c3 c4 c5 c6 d b hBw a c;have a:=f;clear f;obtain⟨X,d,b,hBw⟩:=o.o Y a;cases v:gt p s;rotate_left
 .have D:=hid v;clear v;go_wp2_with fail;go_ret;exact⟨by rw[Dz n.o m.o (.inr (.inr (.inr D.o)))];rfl,hBw⟩
 have D:=hid v;clear v;have J:cu p s:=formed n.o m.o z.o A.o B.o D.o;obtain⟨⟨k,i,j⟩,l,g,c1,c2,c3,c4,c5,c6⟩:=X;go_wp2_with fail;refine(Ux p s _ d b J).mono ?_;rintro e w7 ⟨rfl,c⟩;have f:=a.trans (c.mono a.size);clear k i j l g c1 c2 c3 c4 c5 c6 d b hBw a c;have a:=f;clear f;obtain⟨X,d,b,hBw⟩:=o.o w7 a;cases x:mh p s;rotate_left
 .have G:=hid x;clear x;go_wp2_with fail;go_ret;exact⟨by rw[Cv n.o m.o z.o A.o B.o D.o,G.o];rfl,hBw⟩
 have G:=hid x;clear x;obtain⟨⟨k,i,j⟩,l,g,c1,c2,c3,c4,c5,c6⟩:=X;go_wp2_with fail;refine(Tq p s _ b J).mono ?_;rintro e w8 ⟨rfl,c⟩;have f:=a.trans (c.mono a.size);clear k i j l g c1 c2 c3 c4 c5 c6 d b hBw a c;have a:=f;clear f;obtain⟨X,d,b,hBw⟩:=o.o w8 a;cases y:me s
 .have H:=hid y;clear y;go_wp2_with fail;go_ret;exact⟨by rw[Cv n.o m.o z.o A.o B.o D.o,G.o,H.o];rfl,hBw⟩
 have H:=hid y;clear y;go_wp2_with fail;go_ret;exact⟨by rw[Cv n.o m.o z.o A.o B.o D.o,H.o,Bool.or_true];rfl,hBw⟩
def mj(p:Pl)(s:St)(bin good:Int):Int:=if ag p s=0 then(if inB bin 0 ((p.nb:Int)-1)&&inB good 0 ((p.ns:Int)-1) then 0 else 3) else ag p s
def xf(p:Pl)(s:St)(bin good:Int):Int:=if mj p s bin good=0 then aq s bin.toNat good.toNat else 0
def j8(p:Pl)(s:St)(b:Int):Nat->Int
 | 0=>0
 | k+1=>j8 p s b k+(if (s.ms.z k).b=b then(s.ms.z k).n*p.zs (s.ms.z k).o.toNat else 0)
def gw(p:Pl)(s:St)(b:Nat):Int:=(p.zb b).room-ff (s.on.r b).z p.zs p.ns-j8 p s b s.ms.n
def vl(p:Pl)(s:St)(bin:Int):Int:=if ag p s=0 then yb p s.on bin else ag p s
def Ck(p:Pl)(s:St)(bin:Int):Int:=if vl p s bin=0 then gw p s bin.toNat else 0
theorem R6{b:Int}{k:Nat}(h:(s.ms.z k).b=b):j8 p s b (k+1)=j8 p s b k+(s.ms.z k).n*p.zs (s.ms.z k).o.toNat:=by simp only[j8];rw[if_pos h]
theorem Ps{b:Int}{k:Nat}(h:¬(s.ms.z k).b=b):j8 p s b (k+1)=j8 p s b k:=by simp only[j8];rw[if_neg h,Int.add_zero]
theorem Ig{p:Pl}{s:St}(f:cu p s)(b:Int):∀k,k<=s.ms.n->0<=j8 p s b k/\j8 p s b k<=1800*k
 | 0,_=>by simp[j8]
 | k+1,hk=>by
  have d:=Ig f b k ow;have c:=sl (f.move k ow);have:=Gv (a:=(s.ms.z k).n) (b:=p.zs (s.ms.z k).o.toNat) ⟨ow,c.2.2.2.2.2⟩ (f.sh.pl.sizes _ ow);simp only[j8]
  split<;>omega
theorem Mj(p:Pl)(s:St)(bin good:Int)(w:World)(d:p.At w)(hs:s.At w):
  Calls prog 143 #[p.val,s.val,.int .i64 bin,.int .i64 good] w λe w'=>e = .returned (.tuple #[.int .i64 (xf p s bin good),.int .i64 (mj p s bin good)])/\Bw w w':=by
 obtain⟨k,n,o,l⟩:=Lf w p s;have j:=Ic d hs o l;have u:=hid n;have z:p.nb<=maxLen:=Qzx d.leb d.capb;have A:p.ns<=maxLen:=Qzx d.les d.caps;clear n l;unfold Pl.val St.val;go_enter func143,ntmps143;go_wp2_with fail;rw[u.o];obtain⟨X,f,a,hBw⟩:=j.o k brf;refine(l8 p s k f a).mono ?_;rintro e w1 ⟨rfl,v⟩;clear X f a hBw;obtain⟨X,f,a,hBw⟩:=j.o w1 v;obtain⟨⟨F,D,E⟩,G,B,c1,c2,c3,c4,c5,c6⟩:=X;by_cases c:ag p s=0;rotate_left
 .have HE:Hid (mj p s bin good=ag p s/\xf p s bin good=0):=by
   have e:mj p s bin good=ag p s:=by unfold mj;rw[if_neg c]
   exact⟨e,by unfold xf;rw[e,if_neg c]⟩
  exact ab3
 have t:Hid (am p s):=et c;have i:=hid c;rw[c];clear c;cases h1:inB bin 0 ((p.nb:Int)-1)
 .have HE:Hid (mj p s bin good=3/\xf p s bin good=0):=by
   have e:mj p s bin good=3:=by unfold mj;rw[if_pos i.o,h1];rfl
   exact acg
  exact amp
 cases h2:inB good 0 ((p.ns:Int)-1)
 .have HE:Hid (mj p s bin good=3/\xf p s bin good=0):=by
   have e:mj p s bin good=3:=by unfold mj;rw[if_pos i.o,h2,Bool.and_false];rfl
   exact acg
  exact amp
 have HE:Hid (mj p s bin good=0/\xf p s bin good=aq s bin.toNat good.toNat):=by
  have e:mj p s bin good=0:=by unfold mj;rw[if_pos i.o,h1,h2];rfl
  exact acg
 obtain⟨b,x⟩:=Qzz (ar h1).1;obtain⟨g,y⟩:=Qzz (ar h2).1;have q:b<p.nb:=Nw;have r:g<p.ns:=ak8;subst x y;go_wp2_with(go_at_call 98;refine ap (im _ _ _ Cz) ?_);refine(U4 p s b g w1 a t.o.fm q r).mono ?_;rintro e H ⟨rfl,m⟩;go_wp2_with fail
 go_ret2
 exact⟨aac,hBw.trans (m.mono hBw.size)⟩
theorem Xs(p:Pl)(s:St)(bin:Int)(w:World)(hp:p.At w)(hs:s.At w):
  Calls prog 125 #[p.val,s.val,.int .i64 bin] w λe w'=>e = .returned (.tuple #[.int .i64 (Ck p s bin),.int .i64 (vl p s bin)])/\Bw w w':=by
 obtain⟨K,hW,E,X0⟩:=Lf w p s;have J:=Ic hp hs E X0;have HW:=hid hW;clear hW X0;unfold Pl.val St.val;go_enter func125,ntmps125;go_wp2_with fail;rw[HW.o];obtain⟨X,c,f,hBw⟩:=J.o K brf;refine(l8 p s K c f).mono ?_;rintro e w1 ⟨rfl,q⟩;clear X c f hBw;obtain⟨X,c,f,hBw⟩:=J.o w1 q;obtain⟨⟨G,y,v⟩,L,c0,c1,c2,c3,c4,c5,c6⟩:=X;by_cases A:ag p s=0;rotate_left
 .have HE:Hid (vl p s bin=ag p s/\Ck p s bin=0):=by
   have e:vl p s bin=ag p s:=by unfold vl;rw[if_neg A]
   exact⟨e,by unfold Ck;rw[e,if_neg A]⟩
  exact ab3
 have m:Hid (am p s):=et A;have H0:=hid A;rw[A];clear A;go_wp2_with fail;refine(aqr p s.on bin w1 c f.on).mono ?_;rintro e w2 ⟨rfl,Q⟩;have D:=q.trans (Q.mono q.size);clear Q q G y v L c0 c1 c2 c3 c4 c5 c6 c f hBw;obtain⟨X,c,f,hBw⟩:=J.o w2 D;obtain⟨⟨G,y,v⟩,L,c0,c1,c2,c3,c4,c5,c6⟩:=X;by_cases h1:yb p s.on bin=0;rotate_left
 .have HE:Hid (vl p s bin=yb p s.on bin/\Ck p s bin=0):=by
   have e:vl p s bin=yb p s.on bin:=by unfold vl;rw[if_pos H0.o]
   exact⟨e,by unfold Ck;rw[e,if_neg h1]⟩
  exact ab3
 have F:inB bin 0 ((s.on.n:Int)-1)=true:=by
  cases hq:inB bin 0 ((s.on.n:Int)-1)
  .unfold yb at h1;rw[m.o.fm.sh0,hq] at h1;simp at h1
  rfl
 have ay:=m.o.fm.sh.n;obtain⟨b,hb⟩:=Qzz (ar F).1;have T:b<p.nb:=by have:=(ar F).2;omega
 have HE:Hid (vl p s bin=0/\Ck p s bin=gw p s b/\L7 p s.on bin=ff (s.on.r b).z p.zs p.ns):=by
  have e:vl p s bin=0:=by unfold vl;rw[if_pos H0.o,h1]
  exact⟨e,by unfold Ck;rw[e,if_pos rfl,hb];rfl,by unfold L7;rw[h1,hb];rfl⟩
 rw[h1,HE.o.2.2];have bs:=zy (z:=(s.on.r b).z) (zs:=p.zs) (n:=p.ns) (λj hj=>⟨m.o.fm.sh.num b ow j hj,m.o.fm.sh.pl.sizes j hj⟩) p.ns nlr;have ns3:=m.o.fm.sh.pl.ns3;have ms8:=m.o.fm.ms8;have a5:0<=(p.zb b).room/\(p.zb b).room<=1000:=by
  have:=m.o.fm.sh.pl.bins b T;exact abw
 have TB:Hid (∀k,k<=s.ms.n->0<=j8 p s b k/\j8 p s b k<=1800*k):=Ig m.o.fm b;have TH:Hid (gw p s b=(p.zb b).room-ff (s.on.r b).z p.zs p.ns-j8 p s b s.ms.n):=rfl;obtain⟨bb,bo,S,ah,M,y1,y2,y3⟩:=c.bins b T;rw[S] at y;have HF:=hid m.o.fm;clear S h1 F c f ay m;subst hb
 generalize ff (s.on.r b).z p.zs p.ns=US at *
 generalize (p.zb b).room=RM at *
 have q1:(0:Int)<=(b:Int):=ow;go_wp2_with fail
 go_loopw [11,42] (λu i wk=>∃k:Nat,k<=s.ms.n/\i = .int .i64 k/\u = .int .i64 (RM-US-j8 p s b k)/\Bw K wk) (λ_ i _=>s.ms.n-(intOf i).toNat)
 case atStart=>exact⟨0,Qxz _,rfl,by simp[j8],D⟩
 clear D hBw G y v L c0 c1 c2 c3 c4 c5 c6 M y1 y2 y3 ah;obtain⟨k,hk,rfl,rfl,q⟩:=hrel;have m1:=TB.o k hk;by_cases W:k<s.ms.n;rotate_left
 .have aw:k=s.ms.n:=ow;subst aw;go_wp2_with fail
  go_ret2
  exact⟨by rw[HE.o.1,HE.o.2.1,TH.o];rfl,E.trans (q.mono E.size)⟩
 obtain⟨X,c,f,hBw⟩:=J.o wr q;obtain⟨⟨G,y,v⟩,L,-⟩:=X;obtain⟨b1,o1,Y,br,z0,z1,z2,z3⟩:=f.ms.hds k W;have t:=sl (HF.o.move k W);obtain⟨g,hg⟩:=Qzz t.1.1;have V:g<p.ns:=ow;obtain⟨b2,o2,aa,au,M⟩:=c.sizes g V;have a0:=HF.o.sh.pl.sizes g V;have ax:=t.2.2.2.2;have bh:=Gv (a:=(s.ms.z k).n) (b:=p.zs g) ⟨ow,ax.2⟩ a0;have H:Hid (((s.ms.z k).b=b->j8 p s b (k+1)=j8 p s b k+(s.ms.z k).n*p.zs g)/\(¬(s.ms.z k).b=b->j8 p s b (k+1)=j8 p s b k)):=⟨λh=>by rw[R6 h,hg];rfl,Ps⟩;rw[hg] at z0;rw[aa] at v;obtain⟨o,hW1,x,hY⟩:∃o,wr.alloc (.cells #[.int .i64 g,.int .i64 (s.ms.z k).l,.int .i64 (s.ms.z k).b,.int .i64 (s.ms.z k).n] 110)=o/\Bw K o/\Blk o wr.heap.size 110 4 (λj=>(#[.int .i64 g,.int .i64 (s.ms.z k).l,.int .i64 (s.ms.z k).b,.int .i64 (s.ms.z k).n]:Array Value).getD j default):=⟨_,rfl,q.alloc q.size _,Blk.mk' rfl rfl⟩;have HV:=hid hW1;have B:Bw wr o:=Z8;have r0:=Qqq (hY.k 0);have r3:=Qqq (hY.k 3);have r4:∀d os,(grow (redrawn o d) os).cell? ⟨w.heap.size,1,none⟩=some (.slice (some ⟨b2,o2,none⟩) p.ns p.cs):=λd os=>Qqq ((B.cell (p:=⟨w.heap.size,1,none⟩) G).trans v) d os;have r5:∀d os,(grow (redrawn o d) os).cell? ⟨b2,o2+g,none⟩=some (.int .i64 (p.zs g)):=λd os=>Qqq ((B.cell (p:=⟨b2,o2+g,none⟩) au).trans M) d os;have q2:(0:Int)<=(g:Int):=ow;have q3:(0:Int)<=(k:Int):=ow;rw[Y];clear Y aa hg t hW1 c f hBw M B y v
 generalize j8 p s b k=U at *
 generalize (s.ms.z k).b=BB at *
 generalize (s.ms.z k).l=LL at *
 generalize (s.ms.z k).n=NN at *
 generalize p.zs g=ZG at *
 cases h1:(BB==(b:Int))
 .have t:=H.o.2 xp;have HM:=hid t;clear t H r0 r3 r4 r5;exact axz
 have t:=H.o.1 xp;have HM:=hid t;clear t H;go_wp2_with fail;rw[HV.o]
 generalize hPR:NN*ZG=PR at *
 refine Qxq ko ko ?_
 repeat(go_big_quiet_step(fail))
 refine Qqz ?_;intro _ az;obtain⟨⟨dq,ab⟩,aj⟩:=az;subst aj;have hC:=x.trans ((Qxx o dq ab).mono x.size);clear r0 r3 r4 r5 hY x HV
 generalize grow (redrawn o dq) ab=wz at *
 go_wp2_with fail;go_roundw
 case rel=>exact⟨k+1,ow,vo,alq,hC⟩
 case measure=>simp[intOf];omega
def un(p:Pl)(s:St):Prop:=s.on.n=p.nb/\(∀i,i<p.nb->(s.on.r i).n=p.ns/\∀j,j<p.ns->(s.on.r i).z j=0)/\s.os.n=0/\s.hs.n=0/\s.ms.n=0 /\
 (s.si.n=p.ns/\∀j,j<p.ns->s.si.z j=0)/\(s.so.n=p.ns/\∀j,j<p.ns->s.so.z j=0)/\(s.sf.n=p.ns/\∀j,j<p.ns->s.sf.z j=0)
def J2(s:St):Prop:=s.on.n=0/\s.os.n=0/\s.hs.n=0/\s.ms.n=0/\s.si.n=0/\s.so.n=0/\s.sf.n=0
def avq(p:Pl)(s:St):Prop:=(iu p=0->un p s)/\(¬iu p=0->J2 s)
def mw:St:=⟨⟨none,0,0,λ_=>⟨none,0,0,λ_=>0⟩⟩,⟨none,0,0,λ_=>⟨0,⟨none,0,0,λ_=>⟨0,0,0,0⟩⟩⟩⟩,⟨none,0,0,λ_=>⟨0,0,0,0⟩⟩,⟨none,0,0,λ_=>⟨0,0,0,0⟩⟩,⟨none,0,0,λ_=>0⟩,⟨none,0,0,λ_=>0⟩,⟨none,0,0,λ_=>0⟩⟩
theorem Rw.none(w:World):Rw.At w ⟨.none,0,0,λ_=>0⟩:=⟨Nat.le_refl _,Qxz _,λi hi=>absurd hi (Qzq _)⟩
theorem Hs.none(w:World):Hs.At w ⟨.none,0,0,λ_=>⟨0,0,0,0⟩⟩:=⟨Nat.le_refl _,Qxz _,λi hi=>absurd hi (Qzq _),λ_=>rfl⟩
theorem Df(w:World):mw.At w :=
 ⟨⟨Nat.le_refl _,Qxz _,λi hi=>absurd hi (Qzq _)⟩,⟨Nat.le_refl _,Qxz _,λi hi=>absurd hi (Qzq _)⟩,Hs.none w,Hs.none w,Rw.none w,Rw.none w,Rw.none w⟩
theorem afp(hj:j<n):(madeCells (Value.int .i64 0).cells n).toList.getD j default = .int .i64 0:=ace
theorem ay1(hj:j<n):(madeCells (Value.slice .none 0 0).cells n).toList.getD j default = .slice .none 0 0:=ace
theorem Y4:(prog.info? 3).map (λi=>(i.zero,i.size,i.bytes))=some (some (.int .i64 0),1,8):=ko
theorem aiz:(prog.info? 23).map (λi=>(i.zero,i.size,i.bytes))=some (some (.slice .none 0 0),1,24):=ko
theorem Fa(B:Nat)(p:Pl)(w:World)(ns3:p.ns<=3)(o:B<w.heap.size)(c1:w.cell? ⟨B,1,none⟩=some (.slice p.sa p.ns p.cs)):
  Calls prog 19 #[.pointer (some ⟨B,0,none⟩)] w λe w'=>e = .returned (.slice (some ⟨w.heap.size,0,none⟩) p.ns p.ns)/\Blk w' w.heap.size 3 p.ns (λ_ => .int .i64 0)/\Bw w w':=by
 obtain⟨m,hi,f,i,hz2⟩:=info_parts Y4;go_enter func19,ntmps19;go_wp2_with(at_make;refine wpList_make_full _ rfl _ _ 23 rfl w.heap.size 3 m (.int .i64 0) 1 underlying23 hi f i .i64 .i64 _ _ p.ns rfl rfl rfl rfl Ju uo nlr ?_;intro w1 c b);go_ret;obtain⟨g,n,d,_,_,_,a⟩:=Blk.ofOwns c vq;simp only[co,Value.slice.injEq] at d;obtain⟨rfl,-,-⟩:=d;rw[Nat.mul_one] at a;exact⟨rfl,a.congr (λj l=>afp l),(Below.refl _ w).grown b nlr Ba⟩
theorem Eu(h:Blk w g e n (λ_ => .int .i64 0))(a:n<=3):Rw.At w ⟨some ⟨g,0,.none⟩,n,n,λ_=>0⟩:=
 ⟨Nat.le_refl _,by show n<=maxLen;unfold maxLen;omega,λi hi=>⟨g,0,rfl,h.lt,akn⟩⟩
def set7(w:World)(b:Nat)(v0 v1 v2 v3 v4 v5 v6:Value):World :=
 ((((((w.setCell ⟨b,0,none⟩ v0).setCell ⟨b,1,none⟩ v1).setCell ⟨b,2,none⟩ v2).setCell ⟨b,3,none⟩ v3).setCell ⟨b,4,none⟩ v4).setCell ⟨b,5,none⟩ v5).setCell ⟨b,6,none⟩ v6
theorem pc(h:Blk w b e 7 f)(a c d g i k l:Value):Blk (set7 w b a c d g i k l) b e 7 (λj=>(#[a,c,d,g,i,k,l]:Array Value).getD j default):=
 (((((((h.set 0 a).set 1 c).set 2 d).set 3 g).set 4 i).set 5 k).set 6 l).congr λj m=>by match j,m with|0,_=>rfl|1,_=>rfl|2,_=>rfl|3,_=>rfl|4,_=>rfl|5,_=>rfl|6,_=>rfl
theorem nl(h:Blk w g e n f)(c:g≠b)(d i j k l m o:Value):Blk (set7 w b d i j k l m o) g e n f :=
 ((((((h.other (a:=⟨b,0,none⟩) c d).other (a:=⟨b,1,none⟩) c i).other (a:=⟨b,2,none⟩) c j).other (a:=⟨b,3,none⟩) c k).other (a:=⟨b,4,none⟩) c l).other (a:=⟨b,5,none⟩) c m).other (a:=⟨b,6,none⟩) c o
theorem lr{A:World}(h:Below n A w)(a:n<=b)(c d e f g i j:Value):Below n A (set7 w b c d e f g i j):=
 ((((((h.setCell (p:=⟨b,0,none⟩) a c).setCell (p:=⟨b,1,none⟩) a d).setCell (p:=⟨b,2,none⟩) a e).setCell (p:=⟨b,3,none⟩) a f).setCell (p:=⟨b,4,none⟩) a g).setCell (p:=⟨b,5,none⟩) a i).setCell (p:=⟨b,6,none⟩) a j
theorem dp{a c d f g i l:Value}(h:Blk w b e 7 (λj=>(#[a,c,d,f,g,i,l]:Array Value).getD j default)):
  w.cell? ⟨b,0,none⟩=some a/\w.cell? ⟨b,1,none⟩=some c/\w.cell? ⟨b,2,none⟩=some d/\w.cell? ⟨b,3,none⟩=some f/\w.cell? ⟨b,4,none⟩=some g/\w.cell? ⟨b,5,none⟩=some i/\w.cell? ⟨b,6,none⟩=some l :=
 ⟨h.k 0,h.k 1,h.k 2,h.k 3,h.k 4,h.k 5,h.k 6⟩
theorem ab7(w:World)(x:St):∃W,w.alloc (.cells #[.slice x.on.a x.on.n x.on.c,.slice x.os.a x.os.n x.os.c,.slice x.hs.a x.hs.n x.hs.c,.slice x.ms.a x.ms.n x.ms.c,.slice x.si.a x.si.n x.si.c,.slice x.so.a x.so.n x.so.c,.slice x.sf.a x.sf.n x.sf.c] 36)=W/\Bw w W/\Blk W w.heap.size 36 7 (λj=>x.cells.getD j default):=⟨_,rfl,(Below.refl _ _).alloc (Nat.le_refl _) _,Blk.mk' rfl rfl⟩
theorem n7b(h:Blk w b e 7 f):Blk (set7 w b (.slice .none 0 0) (.slice .none 0 0) (.slice .none 0 0) (.slice .none 0 0) (.slice .none 0 0) (.slice .none 0 0) (.slice .none 0 0)) b e 7 (λj=>(#[.slice .none 0 0,.slice .none 0 0,.slice .none 0 0,.slice .none 0 0,.slice .none 0 0,.slice .none 0 0,.slice .none 0 0]:Array Value).getD j default):=pc h (.slice .none 0 0) (.slice .none 0 0) (.slice .none 0 0) (.slice .none 0 0) (.slice .none 0 0) (.slice .none 0 0) (.slice .none 0 0)
theorem n7w{A:World}(h:Below n A w)(a:n<=b):Below n A (set7 w b (.slice .none 0 0) (.slice .none 0 0) (.slice .none 0 0) (.slice .none 0 0) (.slice .none 0 0) (.slice .none 0 0) (.slice .none 0 0)):=lr h a (.slice .none 0 0) (.slice .none 0 0) (.slice .none 0 0) (.slice .none 0 0) (.slice .none 0 0) (.slice .none 0 0) (.slice .none 0 0)
theorem s7b(h:Blk w b e 7 f)(y:St):Blk (set7 w b (.slice y.on.a y.on.n y.on.c) (.slice y.os.a y.os.n y.os.c) (.slice y.hs.a y.hs.n y.hs.c) (.slice y.ms.a y.ms.n y.ms.c) (.slice y.si.a y.si.n y.si.c) (.slice y.so.a y.so.n y.so.c) (.slice y.sf.a y.sf.n y.sf.c)) b e 7 (λj=>(#[.slice y.on.a y.on.n y.on.c,.slice y.os.a y.os.n y.os.c,.slice y.hs.a y.hs.n y.hs.c,.slice y.ms.a y.ms.n y.ms.c,.slice y.si.a y.si.n y.si.c,.slice y.so.a y.so.n y.so.c,.slice y.sf.a y.sf.n y.sf.c]:Array Value).getD j default):=pc h (.slice y.on.a y.on.n y.on.c) (.slice y.os.a y.os.n y.os.c) (.slice y.hs.a y.hs.n y.hs.c) (.slice y.ms.a y.ms.n y.ms.c) (.slice y.si.a y.si.n y.si.c) (.slice y.so.a y.so.n y.so.c) (.slice y.sf.a y.sf.n y.sf.c)
theorem s7w{A:World}(h:Below n A w)(d:n<=b)(y:St):Below n A (set7 w b (.slice y.on.a y.on.n y.on.c) (.slice y.os.a y.os.n y.os.c) (.slice y.hs.a y.hs.n y.hs.c) (.slice y.ms.a y.ms.n y.ms.c) (.slice y.si.a y.si.n y.si.c) (.slice y.so.a y.so.n y.so.c) (.slice y.sf.a y.sf.n y.sf.c)):=lr h d (.slice y.on.a y.on.n y.on.c) (.slice y.os.a y.os.n y.os.c) (.slice y.hs.a y.hs.n y.hs.c) (.slice y.ms.a y.ms.n y.ms.c) (.slice y.si.a y.si.n y.si.c) (.slice y.so.a y.so.n y.so.c) (.slice y.sf.a y.sf.n y.sf.c)
def ki(A:Nat)(w:World)(r:Rw):Prop:=∃g,r.a=some ⟨g,0,none⟩/\A<=g/\r.n<=r.c/\r.c<=maxLen/\Blk w g 3 r.n (λj => .int .i64 (r.z j))
theorem ki.at{r:Rw}(h:ki A w r):r.At w:=by
 obtain⟨g,c,_,a,b,hb⟩:=h;exact⟨a,b,λi hi=>⟨g,0,c,hb.lt,akh⟩⟩
theorem ki.below{r:Rw}(h:ki A w r)(d:Bw w w'):ki A w' r:=by
 obtain⟨g,e,a,b,c,f⟩:=h;exact⟨g,e,a,b,c,f.below d⟩
structure ah(A:Nat)(w:World)(s:St):Prop where
 on:∃g,s.on.a=some ⟨g,0,none⟩/\A<=g/\s.on.n<=s.on.c/\s.on.c<=maxLen/\Blk w g 23 s.on.n (λi => .slice (s.on.r i).a (s.on.r i).n (s.on.r i).c)
 rows:∀i,i<s.on.n->ki A w (s.on.r i)
 rapart:∀i j,i<j->j<s.on.n->(s.on.r i).a≠(s.on.r j).a
 os:kj A w s.os
 hs:ct A 107 w s.hs
 ms:ct A 110 w s.ms
 msr:gp A w 110 4 s.ms.a s.ms.c
 si:ki A w s.si
 so:ki A w s.so
 sf:ki A w s.sf
 aio:s.si.a≠s.so.a
 aif:s.si.a≠s.sf.a
 aof:s.so.a≠s.sf.a
 ari:∀i,i<s.on.n->(s.on.r i).a≠s.si.a/\(s.on.r i).a≠s.so.a/\(s.on.r i).a≠s.sf.a
theorem ah.at(h:ah A w s):s.At w:=by
 obtain⟨g,c,_,a,b,hb⟩:=h.on;exact⟨⟨a,b,λi hi=>⟨g,0,c,hb.lt,akh,(h.rows i hi).at⟩⟩,h.os.at,h.hs.at,h.ms.at,h.si.at,h.so.at,h.sf.at⟩
theorem ki.other{r:Rw}(h:ki A w r)(l:Blk w q t n f)(c:3≠t)(j:Nat)(u:Value):ki A (w.setCell ⟨q,j,none⟩ u) r:=by
 obtain⟨g,k,d,e,i,b⟩:=h;exact⟨g,k,d,e,i,b.other (a:=⟨q,j,none⟩) (Blk.ne2 b l c) u⟩
theorem kj.other{s:Os}(h:kj A w s)(k:Blk w q t n f)(l:124≠t)(m:115≠t)(j:Nat)(u:Value):kj A (w.setCell ⟨q,j,none⟩ u) s:=by
 refine⟨h.le,h.cap,λo => ?_,λi hi => ?_,h.apart,h.room.set q j u⟩
 .obtain⟨g,a,b,c⟩:=h.list o;exact⟨g,a,b,c.other (a:=⟨q,j,none⟩) (Blk.ne2 c k l) u⟩
 obtain⟨B,a,b,c,d,e⟩:=h.lines i hi;exact⟨B,a,b,c,d,e.other (a:=⟨q,j,none⟩) (Blk.ne2 e k m) u⟩
theorem ah.box(h:ah A w s)(hq:Blk w q 36 n f)(j:Nat)(u:Value):ah A (w.setCell ⟨q,j,none⟩ u) s:=Tf
theorem ah.set7(h:ah A w s)(c:Blk w b 36 7 f)(a d e g i j k:Value):ah A (Go.Proofs.YtjgckphgagdpaaaGreatDoor.set7 w b a d e g i j k) s :=
 ((((((h.box c 0 a).box (c.set 0 a) 1 d).box ((c.set 0 a).set 1 d) 2 e).box (((c.set 0 a).set 1 d).set 2 e) 3 g).box ((((c.set 0 a).set 1 d).set 2 e).set 3 g) 4 i).box (((((c.set 0 a).set 1 d).set 2 e).set 3 g).set 4 i) 5 j).box ((((((c.set 0 a).set 1 d).set 2 e).set 3 g).set 4 i).set 5 j) 6 k
def Fb(A:Nat)(s:St)(v:Value)(g:List Nat)(wk:World):Prop:=∃(g0:Nat) (G C:Nat->Nat),v = .slice (some ⟨g0,0,none⟩) s.on.n s.on.n/\A<=g0/\Blk wk g0 23 s.on.n (λi => .slice (some ⟨G i,0,none⟩) (s.on.r i).n (C i)) /\
 (∀i,i<s.on.n->A<=G i/\(s.on.r i).n<=C i/\C i<=maxLen/\Blk wk (G i) 3 (s.on.r i).n (λj => .int .i64 ((s.on.r i).z j)))/\(∀i j,i<j->j<s.on.n->G i<G j)/\g=(List.range s.on.n).map G
theorem Fb.below{g:List Nat}(h:Fb A s v g w)(b:Bw w w'):Fb A s v g w':=by
 obtain⟨c,G,C,d,e,f,a,j,k⟩:=h;exact⟨c,G,C,d,e,f.below b,λi hi=>⟨(a i hi).1,(a i hi).2.1,(a i hi).2.2.1,(a i hi).2.2.2.below b⟩,j,k⟩
theorem Fb.lt{g:List Nat}(h:Fb A s v g w):∀x∈g,x<w.heap.size:=by
 obtain⟨a,G,C,b,c,d,h4,e,rfl⟩:=h;exact an0
def lp(A:Nat)(r:Rw)(v:Value)(g:List Nat)(wk:World):Prop:=∃B c,g=[B]/\v = .slice (some ⟨B,0,none⟩) r.n c/\A<=B/\r.n<=c/\c<=maxLen/\Blk wk B 3 r.n (λj => .int .i64 (r.z j))
theorem lp.below{r:Rw}{g:List Nat}(h:lp A r v g w)(j:Bw w w'):lp A r v g w':=by
 obtain⟨B,c,a,b,d,e,f,i⟩:=h;exact⟨B,c,a,b,d,e,f,i.below j⟩
theorem lp.lt{r:Rw}{g:List Nat}(h:lp A r v g w):∀x∈g,x<w.heap.size:=by
 obtain⟨B,c,rfl,b,d,e,f,a⟩:=h;intro x hx;rw[List.mem_singleton] at hx;subst hx;exact a.lt
def DHs(A:Nat)(e:TypeId)(s:Hs)(v:Value)(g:List Nat)(wk:World):Prop:=∃s':Hs,g=[]/\v = .slice s'.a s'.n s'.c/\uq A e s wk s'
theorem DHs.below{s:Hs}{g:List Nat}(h:DHs A e s v g w)(hB:Bw w w'):DHs A e s v g w':=aok
theorem kj.below{s:Os}(h:kj A w s)(f:Bw w w'):kj A w' s:=by
 refine⟨h.le,h.cap,λj => ?_,λi hi => ?_,h.apart,h.room.below f⟩
 .obtain⟨g,a,b,c⟩:=h.list j;exact⟨g,a,b,c.below f⟩
 obtain⟨B,a,b,c,d,e⟩:=h.lines i hi;exact⟨B,a,b,c,d,e.below f⟩
theorem kj.mono{d:Nat}{s:Os}(h:kj A w s)(hA:d<=A):kj d w s:=by
 refine⟨h.le,h.cap,λe => ?_,λi hi => ?_,h.apart,h.room.mono hA⟩
 .obtain⟨g,a,b,c⟩:=h.list e;exact⟨g,a,ow,c⟩
 obtain⟨B,a,b,c⟩:=h.lines i hi;exact⟨B,a,ow,c⟩
def DOs(A:Nat)(s:Os)(v:Value)(g:List Nat)(wk:World):Prop:=∃s':Os,g=[]/\v = .slice s'.a s'.n s'.c/\aeq s' s/\kj A wk s'
theorem DOs.below{s:Os}{g:List Nat}(h:DOs A s v g w)(e:Bw w w'):DOs A s v g w':=by
 obtain⟨f,a,b,c,d⟩:=h;exact⟨f,a,b,c,d.below e⟩
theorem pv(p:Pl)(s:St)(w:World)(hs:s.At w)(f:cu p s):
  Calls prog 127 #[s.val] w λe w'=>∃s':St,e = .returned s'.val/\af s' s/\ah w.heap.size w' s'/\Bw w w':=by
 obtain⟨W0,hW,ad,X0,Z0⟩:∃W,((w.alloc (.cells s.cells 36)).alloc (.cells #[.slice .none 0 0,.slice .none 0 0,.slice .none 0 0,.slice .none 0 0,.slice .none 0 0,.slice .none 0 0,.slice .none 0 0] 36))=W/\Bw w W/\Blk W w.heap.size 36 7 (λj=>s.cells.getD j default)/\Blk W (w.heap.size+1) 36 7 (λ_ => .slice .none 0 0):=
  ⟨_,rfl,dx _ _ _,(Blk.mk' rfl rfl).alloc _,(Blk.mk' (cur:=#[.slice .none 0 0,.slice .none 0 0,.slice .none 0 0,.slice .none 0 0,.slice .none 0 0,.slice .none 0 0,.slice .none 0 0]) vq rfl).congr (λj F=>by match j,F with|0,_=>rfl|1,_=>rfl|2,_=>rfl|3,_=>rfl|4,_=>rfl|5,_=>rfl|6,_=>rfl)⟩
 unfold St.cells at hW;have HW:=hid hW;have X:=hid (hs.below ad);have HF:=hid f;have HZ:=hid Z0;have ch:=ad.size;obtain⟨l1,c0,c1,c2,c3,c4,c5,c6⟩:=Boxed.of X0;have r0:=Qqq c0;have r1:=Qqq c1;have r2:=Qqq c2;have r3:=Qqq c3;have r4:=Qqq c4;have r5:=Qqq c5;have r6:=Qqq c6;clear hW X0 Z0 hs f c0 c1 c2 c3 c4 c5 c6;unfold St.val;go_enter func127,ntmps127;go_wp2_with fail;rw[HW.o];refine dg (λw'=>∃p:Regrown,w'=grow (redrawn W0 p.d) p.os) [0,1,3,4,6,7,9,10,12,13,15,16,18,19] [2,5,8,11,14,17,20] [(false,21),(true,22)] (Qqx (brf.drew)) ?_;simp only[jg]
 repeat(go_big_quiet_step(fail))
 refine Qqz ?_;clear r0 r1 r2 r3 r4 r5 r6;refine⟨λj v g k=>match j with|2=>Fb w.heap.size s v g k|5=>DOs w.heap.size s.os v g k|8=>DHs w.heap.size 107 s.hs v g k|11=>DHs w.heap.size 110 s.ms v g k|14=>lp w.heap.size s.si v g k|17=>lp w.heap.size s.so v g k|20=>lp w.heap.size s.sf v g k|_=>True,
  Qjx ⟨λv g w w' A h=>Fb.below h A,Qjx ⟨λv g w w' A h=>DOs.below h A,Qjx ⟨λv g w w' A h=>DHs.below h A,Qjx ⟨λv g w w' A h=>DHs.below h A,Qjx ⟨λv g w w' A h=>lp.below h A,Qjx ⟨λv g w w' A h=>lp.below h A,Qjx ⟨λv g w w' A h=>lp.below h A,Qjq _⟩⟩⟩⟩⟩⟩⟩,
  Qjx ⟨λv g w h=>Fb.lt h,Qjx ⟨λv g w h=>Bm,Qjx ⟨λv g w h=>Bm,Qjx ⟨λv g w h=>Bm,Qjx ⟨λv g w h=>lp.lt h,Qjx ⟨λv g w h=>lp.lt h,Qjx ⟨λv g w h=>lp.lt h,Qjq _⟩⟩⟩⟩⟩⟩⟩,
  Qjx ⟨?zs2,Qjx ⟨?zs5,Qjx ⟨?zs8,Qjx ⟨?zs11,Qjx ⟨?zs14,Qjx ⟨?zs17,Qjx ⟨?zs20,Qjq _⟩⟩⟩⟩⟩⟩⟩,?zdone⟩
 case zs2 =>
  intro V G k K l hd hK;have hX:=ae l;refine ai _ rfl ?_;simp only[bw] at hK ⊢;go_wp2_with fail;refine(Mx s.on k (X.o.on.below hX) atn (λi hi=>by rw[HF.o.sh.len i hi];exact⟨HF.o.sh.pl.ns1,HF.o.sh.pl.ns3⟩)).mono ?_;rintro e w2 ⟨J,E,Cr,rfl,a1,L,H,a4,hB2⟩;go_wp2_with fail;have q:=hX.size;refine hK _ ((List.range s.on.n).map E) _ (Qqx (hX.trans (hB2.mono hX.size))) hB2 (λx hx => ?_) ⟨J,E,Cr,rfl,ow,L,λi hi=>⟨by have:=(H i hi).1;omega,(H i hi).2⟩,a4,rfl⟩;obtain⟨i,hi,rfl⟩:=List.mem_map.1 hx;have:=(H i (List.mem_range.1 hi)).1;omega
 case zs5 =>
  intro V G k K l hd hK;have hX:=ae l;refine ai _ rfl ?_;simp only[bw] at hK ⊢;go_wp2_with fail;refine(T6 s.os k (X.o.os.below hX) aaf HF.o.lns).mono ?_;rintro e w2 ⟨s',rfl,a1,L,hB2⟩;have q:=hX.size;have HR:Hid (aeq s' s.os/\kj w.heap.size w2 s'):=⟨a1,L.mono ow⟩;clear a1 L;simp only[Os.val];go_wp2_with fail;exact hK _ [] _ (Qqx (hX.trans (hB2.mono hX.size))) hB2 (λx hx=>qm) ⟨s',rfl,rfl,HR.o.1,HR.o.2⟩
 case zs8 =>
  intro V G k K l hd hK;have hX:=ae l;refine ai _ rfl ?_;simp only[bw] at hK ⊢;go_wp2_with fail;refine(Wd s.hs k (X.o.hs.below hX) (by have:=HF.o.hs72;omega)).mono ?_;rintro e w2 ⟨s',rfl,hc,hB2⟩;have q:=hX.size;have HR:Hid (uq w.heap.size 107 s.hs w2 s'):=⟨hc.1,hc.2.1,hc.2.2.1.mono ow,hc.2.2.2.mono ow⟩;exact abf
 case zs11 =>
  intro V G k K l hd hK;have hX:=ae l;refine ai _ rfl ?_;simp only[bw] at hK ⊢;go_wp2_with fail;refine(We s.ms k (X.o.ms.below hX) (by have:=HF.o.ms8;omega)).mono ?_;rintro e w2 ⟨s',rfl,hc,hB2⟩;have q:=hX.size;have HR:Hid (uq w.heap.size 110 s.ms w2 s'):=⟨hc.1,hc.2.1,hc.2.2.1.mono ow,hc.2.2.2.mono ow⟩;exact abf
 case zs14 =>
  intro V G k K l hd hK;have hX:=ae l;have au:=HF.o.sh.pl.ns1;have av:=HF.o.sh.pl.ns3;have al:Hid (Calls prog 177 #[.slice s.si.a s.si.n s.si.c] k λe w'=>∃g y,e = .returned (.slice (some ⟨g,0,none⟩) s.si.n y)/\s.si.n<=y/\y<=maxLen/\k.heap.size<=g/\Blk w' g 3 s.si.n (λj => .int .i64 (s.si.z j))/\Bw k w'):=by
   have U:=X.o.si.below hX;obtain⟨b,o,T,-,-⟩:=U.ints 0 (by rw[HF.o.sin];omega);have hi:=U.ints;have hz:s.si.n=p.ns:=HF.o.sin;rw[T] at hi;have:=Ho b o s.si.n s.si.c s.si.z k ow ow hi;rw[<-T] at this;exact this
  exact aha
 case zs17 =>
  intro V G k K l hd hK;have hX:=ae l;have au:=HF.o.sh.pl.ns1;have av:=HF.o.sh.pl.ns3;have al:Hid (Calls prog 177 #[.slice s.so.a s.so.n s.so.c] k λe w'=>∃g y,e = .returned (.slice (some ⟨g,0,none⟩) s.so.n y)/\s.so.n<=y/\y<=maxLen/\k.heap.size<=g/\Blk w' g 3 s.so.n (λj => .int .i64 (s.so.z j))/\Bw k w'):=by
   have U:=X.o.so.below hX;obtain⟨b,o,T,-,-⟩:=U.ints 0 (by rw[HF.o.son];omega);have hi:=U.ints;have hz:s.so.n=p.ns:=HF.o.son;rw[T] at hi;have:=Ho b o s.so.n s.so.c s.so.z k ow ow hi;rw[<-T] at this;exact this
  exact aha
 case zs20 =>
  intro V G k K l hd hK;have hX:=ae l;have au:=HF.o.sh.pl.ns1;have av:=HF.o.sh.pl.ns3;have al:Hid (Calls prog 177 #[.slice s.sf.a s.sf.n s.sf.c] k λe w'=>∃g y,e = .returned (.slice (some ⟨g,0,none⟩) s.sf.n y)/\s.sf.n<=y/\y<=maxLen/\k.heap.size<=g/\Blk w' g 3 s.sf.n (λj => .int .i64 (s.sf.z j))/\Bw k w'):=by
   have U:=X.o.sf.below hX;obtain⟨b,o,T,-,-⟩:=U.ints 0 (by rw[HF.o.sfn];omega);have hi:=U.ints;have hz:s.sf.n=p.ns:=HF.o.sfn;rw[T] at hi;have:=Ho b o s.sf.n s.sf.c s.sf.z k ow ow hi;rw[<-T] at this;exact this
  exact aha
 case zdone =>
  intro V G k l S hA;obtain⟨J,E,Cr,v2,a1,L,H,a4,aq⟩:Fb w.heap.size s (V 2) (G 2) k:=S 2 vq;obtain⟨t,-,v5,b1,b2⟩:DOs w.heap.size s.os (V 5) (G 5) k:=S 5 vq;obtain⟨m,-,v8,d1,d2,d3,-⟩:DHs w.heap.size 107 s.hs (V 8) (G 8) k:=S 8 vq;obtain⟨m',-,az,f1,f2,f3,f4⟩:DHs w.heap.size 110 s.ms (V 11) (G 11) k:=S 11 vq;obtain⟨u,Y,M,a0,i1,i2,i3,i4⟩:lp w.heap.size s.si (V 14) (G 14) k:=S 14 vq;obtain⟨B,k2,Q,a5,j1,j2,j3,j4⟩:lp w.heap.size s.so (V 17) (G 17) k:=S 17 vq;obtain⟨D,k3,an,a6,l2,l3,l4,l5⟩:lp w.heap.size s.sf (V 20) (G 20) k:=S 20 vq;have aw:u≠B:=λe=>hA 14 vq 17 vq dc u (by rw[M];simp) (by rw[Q,e];simp);have ax:u≠D:=λe=>hA 14 vq 20 vq dc u (by rw[M];simp) aaz;have ay:B≠D:=λe=>hA 17 vq 20 vq dc B (by rw[Q];simp) aaz;have nr:∀i,i<s.on.n->E i≠u/\E i≠B/\E i≠D:=λi hi=>by
   have hm:E i∈G 2:=by rw[aq];exact List.mem_map.2 ⟨i,List.mem_range.2 hi,rfl⟩
   exact⟨λe=>hA 2 vq 14 vq dc _ hm (by rw[M,e];simp),λe=>hA 2 vq 17 vq dc _ hm (by rw[Q,e];simp),λe=>hA 2 vq 20 vq dc _ hm aaz⟩
  have hX:=ae l;have hz:=HZ.o.below hX;clear S hA aq M Q an;have HR:Hid (ah w.heap.size k ⟨⟨some ⟨J,0,none⟩,s.on.n,s.on.n,λi=>⟨some ⟨E i,0,none⟩,(s.on.r i).n,Cr i,(s.on.r i).z⟩⟩,t,m,m',⟨some ⟨u,0,none⟩,s.si.n,Y,s.si.z⟩,⟨some ⟨B,0,none⟩,s.so.n,k2,s.so.z⟩,⟨some ⟨D,0,none⟩,s.sf.n,k3,s.sf.z⟩⟩):=by
   refine⟨⟨J,rfl,a1,Nat.le_refl _,?_,L⟩,λi hi=>⟨E i,rfl,(H i hi).1,(H i hi).2.1,(H i hi).2.2.1,(H i hi).2.2.2⟩,λi j bi F => ?_,b2,d3,f3,f4,⟨u,rfl,i1,i2,i3,i4⟩,⟨B,rfl,j1,j2,j3,j4⟩,⟨D,rfl,l2,l3,l4,l5⟩,?_,?_,?_,λi hi => ?_⟩
   .show s.on.n<=maxLen;have:=HF.o.sh.n;have:=HF.o.sh.pl.nb6;unfold maxLen;omega
   .have:=a4 i j bi F;exact Te
   .intro e;simp only[co] at e;exact aw e
   .intro e;simp only[co] at e;exact ax e
   .intro e;simp only[co] at e;exact ay e
   exact ama
  have HC:Hid (af ⟨⟨some ⟨J,0,none⟩,s.on.n,s.on.n,λi=>⟨some ⟨E i,0,none⟩,(s.on.r i).n,Cr i,(s.on.r i).z⟩⟩,t,m,m',⟨some ⟨u,0,none⟩,s.si.n,Y,s.si.z⟩,⟨some ⟨B,0,none⟩,s.so.n,k2,s.so.z⟩,⟨some ⟨D,0,none⟩,s.sf.n,k3,s.sf.z⟩⟩ s):=
   ⟨⟨rfl,λi hi=>⟨rfl,λj F=>rfl⟩⟩,b1,⟨d1,λj F=>d2 j (by rw[<-d1];exact F)⟩,⟨f1,λj F=>f2 j (by rw[<-f1];exact F)⟩,⟨rfl,λj F=>rfl⟩,⟨rfl,λj F=>rfl⟩,⟨rfl,λj F=>rfl⟩⟩
  clear a1 L H a4 b1 b2 d1 d2 d3 f1 f2 f3 f4 i1 i2 i3 i4 j1 j2 j3 j4 l2 l3 l4 l5 aw ax ay nr;have ap:=hid hz;obtain⟨zl,b5,b3,b6,zc1,b7,zc2,b8,zc3,b9,zc4,ca,zc5,cb,b4⟩:=z7 hz;clear hz;simp only[bw,v2,v5,v8,az,a0,a5,a6];refine bu 21 rfl ?_;go_wp2_with fail;refine⟨fw.no l,?_⟩;refine bu 22 rfl ?_;go_wp2_with fail;refine⟨fw.yes,?_⟩;refine NoPanic.normal ?_;have KZ:=pc ap.o (.slice (some ⟨J,0,none⟩) s.on.n s.on.n) (.slice t.a t.n t.c) (.slice m.a m.n m.c) (.slice m'.a m'.n m'.c) (.slice (some ⟨u,0,none⟩) s.si.n Y) (.slice (some ⟨B,0,none⟩) s.so.n k2) (.slice (some ⟨D,0,none⟩) s.sf.n k3);have ar:=lr (b:=w.heap.size+1) (ad.trans (hX.mono ad.size)) ow (.slice (some ⟨J,0,none⟩) s.on.n s.on.n) (.slice t.a t.n t.c) (.slice m.a m.n m.c) (.slice m'.a m'.n m'.c) (.slice (some ⟨u,0,none⟩) s.si.n Y) (.slice (some ⟨B,0,none⟩) s.so.n k2) (.slice (some ⟨D,0,none⟩) s.sf.n k3);have am:=ah.set7 HR.o ap.o (.slice (some ⟨J,0,none⟩) s.on.n s.on.n) (.slice t.a t.n t.c) (.slice m.a m.n m.c) (.slice m'.a m'.n m'.c) (.slice (some ⟨u,0,none⟩) s.si.n Y) (.slice (some ⟨B,0,none⟩) s.so.n k2) (.slice (some ⟨D,0,none⟩) s.sf.n k3);unfold set7 at KZ ar am
  generalize (((((((k.setCell { block:=w.heap.size+1,off:=0 } (Value.slice (some { block:=J,off:=0 }) s.on.n s.on.n)).setCell { block:=w.heap.size+1,off:=1 } (Value.slice t.a t.n t.c)).setCell { block:=w.heap.size+1,off:=2 } (Value.slice m.a m.n m.c)).setCell { block:=w.heap.size+1,off:=3 } (Value.slice m'.a m'.n m'.c)).setCell { block:=w.heap.size+1,off:=4 } (Value.slice (some { block:=u,off:=0 }) s.si.n Y)).setCell { block:=w.heap.size+1,off:=5 } (Value.slice (some { block:=B,off:=0 }) s.so.n k2)).setCell { block:=w.heap.size+1,off:=6 } (Value.slice (some { block:=D,off:=0 }) s.sf.n k3))=WY at *
  clear hX zl b5 b3 b6 zc1 b7 zc2 b8 zc3 b9 zc4 ca zc5 cb b4 v2 v5 v8 az a0 a5 a6 l;obtain⟨c0,c1,c2,c3,c4,c5,c6⟩:=dp KZ;have HQ:=hid am;clear am;go_wp2_with fail;refine Xzq (v:=(⟨⟨some ⟨J,0,none⟩,s.on.n,s.on.n,λi=>⟨some ⟨E i,0,none⟩,(s.on.r i).n,Cr i,(s.on.r i).z⟩⟩,t,m,m',⟨some ⟨u,0,none⟩,s.si.n,Y,s.si.z⟩,⟨some ⟨B,0,none⟩,s.so.n,k2,s.so.z⟩,⟨some ⟨D,0,none⟩,s.sf.n,k3,s.sf.z⟩⟩:St).val) (by simp[results,results127,go_sem,St.val,c0,c1,c2,c3,c4,c5,c6]) rfl ?_;exact⟨_,rfl,HC.o,HQ.o,ar⟩
theorem ah.mono{d:Nat}(h:ah A w s)(hA:d<=A):ah d w s:=by
 have i:∀{r:Rw},ki A w r->ki d w r:=λ⟨g,a,b,c⟩=>⟨g,a,Qzx hA b,c⟩;refine⟨?_,λj e=>i (h.rows j e),h.rapart,h.os.mono hA,h.hs.mono hA,h.ms.mono hA,h.msr.mono hA,i h.si,i h.so,i h.sf,h.aio,h.aif,h.aof,h.ari⟩;obtain⟨g,a,b,c⟩:=h.on;exact⟨g,a,Qzx hA b,c⟩
theorem s7o(h:ah A w s)(d:Blk w b 36 7 f)(y:St):ah A (set7 w b (.slice y.on.a y.on.n y.on.c) (.slice y.os.a y.os.n y.os.c) (.slice y.hs.a y.hs.n y.hs.c) (.slice y.ms.a y.ms.n y.ms.c) (.slice y.si.a y.si.n y.si.c) (.slice y.so.a y.so.n y.so.c) (.slice y.sf.a y.sf.n y.sf.c)) s:=ah.set7 h d (.slice y.on.a y.on.n y.on.c) (.slice y.os.a y.os.n y.os.c) (.slice y.hs.a y.hs.n y.hs.c) (.slice y.ms.a y.ms.n y.ms.c) (.slice y.si.a y.si.n y.si.c) (.slice y.so.a y.so.n y.so.c) (.slice y.sf.a y.sf.n y.sf.c)
theorem ajb{P:Program}{ops:Array Oper}{T:Nat->Bool}{rem:List Nat}{L:Array Bool}{D:Nat->Value->List Nat->World->Prop}{fuel:Nat}(f:vn ops rem L=true)(u:∀r∈rem,T r=false)
  (mono:∀j∈rem,∀v g w w',Bw w w'->D j v g w->D j v g w') (lt:∀j∈rem,∀v g w,D j v g w->∀x∈g,x<w.heap.size)
  (step:∀i∈rem,∀(V:Nat->Value) (G:Nat->List Nat) (w:World) (K:Act->World->Prop),S w->(∀d∈oe ops i,d∈rem->D d (V d) (G d) w)->(∀d∈oe ops i,∀k∈oe ops i,d∈rem->k∈rem->d≠k->∀x∈G d,x ∉ G k) ->
   (∀v g w',S w'->Bw w w'->(∀x∈g,w.heap.size<=x)->D i v g w'->K ((dz ops rem V a1).put (xt ops i) v) w')->wpOp P ops Q i K (dz ops rem V a1) w)
  (done:∀(V:Nat->Value) (G:Nat->List Nat) (w:World),S w->(∀j∈rem,D j (V j) (G j) w)->(∀j∈rem,∀k∈rem,j≠k->∀x∈G j,x ∉ G k)->tt P ops Q S T fuel (lj L rem) (dz ops rem V a1) w) :
  ∀(m:Nat) (listed:Array Bool) (V:Nat->Value) (G:Nat->List Nat) (w:World),(rem.filter (λr => !listed.getD r true)).length=m->listed.size=ops.size->(∀j,j ∉ rem->listed[j]?=L[j]?)->qu ops listed->S w->(∀j∈rem,listed.getD j true=true->D j (V j) (G j) w) ->
   (∀j∈rem,∀k∈rem,listed.getD j true=true->listed.getD k true=true->j≠k->∀x∈G j,x ∉ G k)->tt P ops Q S T (m+fuel) listed (dz ops rem V a1) w:=by
 simp only[vn,Xxx,decide_eq_true_eq] at f;obtain⟨⟨⟨⟨hoth,b⟩,hrem⟩,s⟩,hnd⟩:=f;have hrem':∀r∈rem,r<ops.size/\L.getD r true=false:=λr hr=>aca;intro m
 induction m with
 | zero =>
  exact atu
 | succ m ih =>
  intro listed V G w hm hsz hag hcl hS hD hA;have hex:∃r∈rem,listed.getD r true=false:=ahd;have l:∀d,L.getD d false=true->listed.getD d false=true:=λd hd=>ag7;obtain⟨y,t,c⟩:=Fw hsz [] rem b l (λd hd=>by simp at hd) (λr hr=>(hrem' r hr).1) hex;rw[Nat.add_right_comm];refine⟨λp=>absurd (p▸c) vq,λi hi => ?_⟩;obtain⟨hli,o,ho,hdep⟩:=mem_ready.1 hi;have a:∀d∈oe ops i,listed.getD d false=true:=λd hd=>abj;have hdt:∀d,listed.getD d false=true->listed.getD d true=true:=λd hd=>abx;have hir:i∈rem:=ag3;refine step i hir V G w _ hS (λd hd hdr=>hD d hdr (hdt d (a d hd))) (λd hd k hk hdr n=>hA d hdr k n (hdt d (a d hd)) (hdt k (a k hk))) (λv g w' hS' hBel hfr hDi => ?_);exact ax8
def ayq(P:Program)(ops:Array Oper)(Q:Exit->Act->World->Prop)(S:World->Prop)(rem:List Nat)(ord:List (Bool × Nat))(a1:Act):Prop :=
 ∃D:Nat->Value->List Nat->World->Prop,(∀j∈rem,∀v g w w',Bw w w'->D j v g w->D j v g w')/\(∀j∈rem,∀v g w,D j v g w->∀x∈g,x<w.heap.size) /\
  (∀i∈rem,∀(V:Nat->Value) (G:Nat->List Nat) (w:World) (K:Act->World->Prop),S w->(∀d∈oe ops i,d∈rem->D d (V d) (G d) w)->(∀d∈oe ops i,∀k∈oe ops i,d∈rem->k∈rem->d≠k->∀x∈G d,x ∉ G k) ->
   (∀v g w',S w'->Bw w w'->(∀x∈g,w.heap.size<=x)->D i v g w'->K ((dz ops rem V a1).put (xt ops i) v) w')->wpOp P ops (NoPanic Q) i K (dz ops rem V a1) w) /\
  (∀(V:Nat->Value) (G:Nat->List Nat) (w:World),S w->(∀j∈rem,D j (V j) (G j) w)->(∀j∈rem,∀k∈rem,j≠k->∀x∈G j,x ∉ G k)->O0 P ops (NoPanic Q) S ord (dz ops rem V a1) w)
def aec(ops:Array Oper)(ks rem:List Nat)(ord:List (Bool × Nat)):Bool :=
 ks.all (λk => !ord.contains (true,k)&&ord.all (λx => !x.1||Dy ops ops.size x.2 k))&&rem.all (λr => !ord.contains (true,r))&&ord.all (λx=>x.1 || !ord.contains (true,x.2))
theorem vw{P:Program}{l:List Oper}{a:Act}(S:World->Prop)(e b:List Nat)(d:List (Bool × Nat))(p:S w.drew)(h:wpQuiet P l.toArray S (ayq P l.toArray Q S b d) (ss l e) a)(B:P.follows .mixedOrders=true:=by kernel_rfl)(hs:Region.noSelect l.toArray=true:=by kernel_rfl)(z:C9 l.toArray e (Array.replicate l.length false)=true:=by kernel_rfl)(v:e.all (λk=>decide (k<l.length))=true:=by kernel_rfl)(E:((ss l e).all Es)=true:=by kernel_rfl)(o:vn l.toArray b (lj (Array.replicate l.length false) e)=true:=by kernel_rfl)(hTB:aec l.toArray e b d=true:=by kernel_rfl)(x:Nn l.toArray d (lj (lj (Array.replicate l.length false) e) b)=true:=by kernel_rfl)(hl:e.length+(b.length+d.length)=l.length:=by kernel_rfl):(Code.region R l.toArray true).wp P Q a w:=by
 refine wp_region_noPanic (wp_region_any B ?_);have hM':=o;simp only[vn,Xxx,decide_eq_true_eq] at hM';simp only[aec,Xxx] at hTB;have hT:∀j,(d.contains (true,j))=true->(true,j)∈d:=λj h=>by simpa using h
 have key:=yh (Q:=NoPanic Q) (T:=λi=>d.contains (true,i)) (N:=l.toArray.size) (fuel:=b.length+d.length) (w:=w.drew) hs p (λc a F w h=>(h:False).elim) e (ss l e) _ a z (λk hk => ?_) (qu.none _ _) (Gx v) E h (λa1 A u => ?_)
 .exact ab6
 .exact alv
 obtain⟨D,mono,lt,step,done⟩:=A;have n:(b.filter (λr => !(lj (Array.replicate l.length false) e).getD r true))=b:=S8;have g:∀j∈b,(lj (Array.replicate l.length false) e).getD j true=true->False:=λj hj hlj=>an6;obtain⟨m,s⟩:∃m,dz l.toArray b m a1=a1:=⟨_,A8 a1 b⟩;have:=ajb (P:=P) (Q:=NoPanic Q) (S:=S) (T:=λi=>d.contains (true,i)) (a1:=a1) (fuel:=d.length) o (λr hr=>asy) mono lt step
  (λV G w' q y hA=>C2 d _ _ w' x (λt i f=>by
   cases t with
   | true=>simpa using f
   | false =>
    have:=List.all_eq_true.1 hTB.2 (false,i) f
    simpa using this) (done V G w' q y hA))
  b.length (lj (Array.replicate l.length false) e) m (λ_=>[]) w.drew (by rw[n]) hM'.1.2 (λ_ _=>rfl) u p (λj hj hlj=>(g j hj hlj).elim) (λj hj k hk hlj _ _=>(g j hj hlj).elim)
 rw[s] at this;exact this
theorem ri{P:Program}(w:World){k:Array Oper}{rest:List Oper}{o:Oper}{a:Act}(F:o.guard=none)(s x:Operand)(t:TypeId)
  (q:o.op=Op.call { callee:=Callee.builtin Builtin.append,args:=#[s,x],argTypes:=#[t,t] }) (e:TypeId) (i:TypeInfo) (z:Value) (size bytes:Nat) (d:P.underlying t=some (.slice e)) (l:P.info? e=some i) (H:i.zero=some z) (J:i.size=size) (L:i.bytes=bytes)
  (M:z.cells.size=size) (S:0<size) (g:Nat) (hs:a.eval s = .slice (some ⟨g,0,none⟩) 0 0) (f:Option Addr) (m c:Nat) (news:List Value) (hx:a.eval x = .slice f m c) (G:news.length=m*size)
  (hc:∀ad,f=some ad->∀j u,news[j]?=some u->w.cell? (ad.add j)=some u) (B:∀u∈news,u.oneCell'=true) (n:f=none->m=0) (b1:m<=maxLen) (b2:m*bytes<=140737488355328)
  (E:m=0->wpList P k Q rest (a.put o.dst (.slice (some ⟨g,0,none⟩) 0 0)) w) (T:0<m->∀p w',w'.ownsRow w.heap.size e size p m news->w.grownBy w' none->wpList P k Q rest (a.put o.dst p) w') :
  wpList P k Q (o :: rest) a w:=by
 rcases Nat.eq_zero_or_pos m with r|r
 .subst r;have v:news=[]:=List.eq_nil_of_length_eq_zero (by simpa using G);subst v;have A:Src P i.size t (.slice f 0 c) 0 [] w:=by
   cases f with
   | none=>exact Src.ofNil w d c
   | some ad=>exact Src.ofSlice w d ad 0 c [] vq (λj u hj=>Sz) (λu U=>by cases U)
  have y:=run_append_nothing (P:=P) w t t o.type e i d l (some ⟨g,0,none⟩) 0 0 nlr _ A;refine wpList_plain F λK D => ?_;unfold Oper.wp;simp[execOp,q,resolve,invoke,builtin,hs,hx,y,Result.andThen];exact D _ _ (E rfl)
 cases f with
 | none=>exact absurd (n rfl) ow
 | some ad =>
  refine wpList_append_grows w F s x t q e i z size bytes d l H J L M S (some ⟨g,0,none⟩) 0 0 [] hs (λh=>ix) vq (λb _ j u hj=>Sz) ad m c news hx G (hc ad rfl) B ow ow (by rw[Nat.zero_add];exact b2) (λp w' d l => ?_);rw[Nat.zero_add,Xqx] at d;exact T r p w' d l
def pj(A n:Nat)(v:Value)(g:List Nat)(wk:World):Prop:=∃B,g=[B]/\v = .slice (some ⟨B,0,none⟩) n n/\A<=B/\Blk wk B 3 n (λ_ => .int .i64 0)
theorem pj.below{g:List Nat}(h:pj A n v g w)(hB:Bw w w'):pj A n v g w':=apb
theorem pj.lt{g:List Nat}(h:pj A n v g w):∀x∈g,x<w.heap.size:=an4
def z5(A:Nat)(v:Value)(g:List Nat)(wk:World):Prop:=∃B,g=[B]/\v = .pointer (some ⟨B,0,none⟩)/\A<=B/\Blk wk B 36 7 (λ_ => .slice .none 0 0)
theorem z5.below{g:List Nat}(h:z5 A v g w)(hB:Bw w w'):z5 A v g w':=apb
theorem z5.lt{g:List Nat}(h:z5 A v g w):∀x∈g,x<w.heap.size:=an4
def Jc(A n:Nat)(v:Value)(g:List Nat)(wk:World):Prop:=∃B1 B2 B3,g=[]/\v = .agg #[.slice .none 0 0,.slice .none 0 0,.slice .none 0 0,.slice .none 0 0,.slice (some ⟨B1,0,none⟩) n n,.slice (some ⟨B2,0,none⟩) n n,.slice (some ⟨B3,0,none⟩) n n] /\
 (A<=B1/\Blk wk B1 3 n (λ_ => .int .i64 0))/\(A<=B2/\Blk wk B2 3 n (λ_ => .int .i64 0))/\(A<=B3/\Blk wk B3 3 n (λ_ => .int .i64 0))
theorem Jc.below{g:List Nat}(h:Jc A n v g w)(a:Bw w w'):Jc A n v g w':=by
 obtain⟨b,c,d,f,i,⟨a1,e⟩,⟨b1,b2⟩,⟨c1,c2⟩⟩:=h;exact⟨b,c,d,f,i,⟨a1,e.below a⟩,⟨b1,b2.below a⟩,⟨c1,c2.below a⟩⟩
def Fd(A n:Nat)(v:Value)(g:List Nat)(wk:World):Prop:=∃B R,g=[B]/\v = .slice (some ⟨B,0,none⟩) 1 1/\A<=B/\Blk wk B 23 1 (λ_ => .slice (some ⟨R,0,none⟩) n n)/\A<=R/\Blk wk R 3 n (λ_ => .int .i64 0)
theorem Fd.below{g:List Nat}(h:Fd A n v g w)(a:Bw w w'):Fd A n v g w':=by
 obtain⟨B,R,b,c,d,e,f,i⟩:=h;exact⟨B,R,b,c,d,e.below a,f,i.below a⟩
theorem Fd.lt{g:List Nat}(h:Fd A n v g w):∀x∈g,x<w.heap.size:=by
 obtain⟨B,R,rfl,a,b,h3,c,d⟩:=h;exact ape
def Fr(n:Nat)(w:World)(s:St):Prop:=∀w'':World,w.heap.size<=w''.heap.size->(∀g,n<=g->g<w.heap.size->w''.heap[g]?=w.heap[g]?)->s.At w''
theorem Fr.at(h:Fr n w s):s.At w:=h w nlr (λ_ _ _=>rfl)
theorem Fr.below(h:Fr n w s)(a:Bw w w'):Fr n w' s:=λc e hs=>h c (Qzx a.size e) λg d b=>(hs g d (Xzx b a.size)).trans (a.block g b)
theorem Fr.set(h:Fr n w s)(d:q<n)(j:Nat)(u:Value):Fr n (w.setCell ⟨q,j,none⟩ u) s:=λa c hs=>h a (by simpa using c) λg b h2=>(hs g b Bb).trans (Below.heap_setCell w ⟨q,j,none⟩ u g (by show g≠q;omega))
theorem px{h:World}{base:Nat}{size:Nat}(o:w.ownsRow base e size v n xs)(l:w.grownBy h v.ownBlock)(c:Blk w q t m f)(g:t≠e):Blk h q t m f:=by
 refine c.grown l ?_;intro b;rcases o.2 with⟨rfl,_⟩|⟨p,j,k,rfl,_,a,i⟩
 .simp[Value.ownBlock] at b
 simp only[Value.ownBlock,Qkx] at b;subst b;obtain⟨c3,d,_⟩:=c;rw[d] at a;cases a;exact g rfl
theorem wm{base:Nat}{size:Nat}(o:w.ownsRow base e size v n xs)(p:Blk w q t m f)(l:t≠e)(j:Nat)(u:Value):(w.setCell ⟨q,j,none⟩ u).ownsRow base e size v n xs:=by
 refine⟨o.1,?_⟩;rcases o.2 with h|⟨g,c,d,rfl,i,a,b⟩
 .exact .inl h
 refine .inr ⟨g,c,d,rfl,i,?_,b⟩;rw[Below.heap_setCell w ⟨q,j,none⟩ u g ?_]
 .exact a
 intro r;obtain⟨c3,k,_⟩:=p;rw[r,k] at a;cases a;exact l rfl
def aqa(p:Pl)(A BX B1 B2 B3 k:Nat)(wk:World):Prop:=∃(v:Value) (G:Nat->Nat),Blk wk BX 36 7 (λj=>(#[v,.slice .none 0 0,.slice .none 0 0,.slice .none 0 0,.slice (some ⟨B1,0,none⟩) p.ns p.ns,.slice (some ⟨B2,0,none⟩) p.ns p.ns,.slice (some ⟨B3,0,none⟩) p.ns p.ns]:Array Value).getD j default) /\
 wk.ownsRow A 23 1 v k ((List.range k).map λi=>Value.slice (some ⟨G i,0,none⟩) p.ns p.ns)/\(∀i,i<k->A<=G i/\Blk wk (G i) 3 p.ns (λ_ => .int .i64 0)) /\
 Blk wk B1 3 p.ns (λ_ => .int .i64 0)/\Blk wk B2 3 p.ns (λ_ => .int .i64 0)/\Blk wk B3 3 p.ns (λ_ => .int .i64 0)
theorem acv(p:Pl)(w:World)(hp:p.At w)(h0:iu p=0):
  Calls prog 15 #[p.val] w λe w'=>∃s:St,e = .returned s.val/\Fr w.heap.size w' s/\un p s/\Bw w w':=by
 have capb:=hp.capb;have leb:=hp.leb;have caps:=hp.caps;have les:=hp.les;have R:=Nm h0;have ns3:=R.ns3;have nb6:=R.nb6;have nb1:=R.nb1;clear h0 R;unfold maxLen at capb caps;obtain⟨t,hW,ba,X0,Z0⟩:∃W,((w.alloc (.cells #[.slice p.ab p.nb p.cb,.slice p.sa p.ns p.cs] 25)).alloc (.cells #[.slice .none 0 0,.slice .none 0 0,.slice .none 0 0,.slice .none 0 0,.slice .none 0 0,.slice .none 0 0,.slice .none 0 0] 36))=W/\Bw w W/\Blk W w.heap.size 25 2 (λj=>(#[.slice p.ab p.nb p.cb,.slice p.sa p.ns p.cs]:Array Value).getD j default)/\Blk W (w.heap.size+1) 36 7 (λ_ => .slice .none 0 0):=
  ⟨_,rfl,dx _ _ _,(Blk.mk' rfl rfl).alloc _,(Blk.mk' (cur:=#[.slice .none 0 0,.slice .none 0 0,.slice .none 0 0,.slice .none 0 0,.slice .none 0 0,.slice .none 0 0,.slice .none 0 0]) vq rfl).congr (λj hj=>by match j,hj with|0,_=>rfl|1,_=>rfl|2,_=>rfl|3,_=>rfl|4,_=>rfl|5,_=>rfl|6,_=>rfl)⟩
 have HW:=hid hW;have HC:Hid (∀wk,Bw t wk->(w.heap.size<wk.heap.size/\wk.cell? ⟨w.heap.size,0,none⟩=some (.slice p.ab p.nb p.cb)/\wk.cell? ⟨w.heap.size,1,none⟩=some (.slice p.sa p.ns p.cs))/\Blk wk (w.heap.size+1) 36 7 (λ_ => .slice .none 0 0)/\Bw w wk):=
  λwk h=>⟨⟨(X0.below h).lt,(X0.below h).k 0,(X0.below h).k 1⟩,Z0.below h,ba.trans (h.mono ba.size)⟩
 have dm:=Z0.lt;obtain⟨i1,hj,ce,cf,cg⟩:=info_parts Y4;obtain⟨i0,hi,ch,ci,cj⟩:=info_parts aiz;have r1:=Qqq (X0.k 1);clear hW X0 Z0 hp;unfold Pl.val;go_enter func15,ntmps15;go_wp2_with fail;rw[HW.o];refine dg (λw'=>∃p:Regrown,w'=grow (redrawn t p.d) p.os) [0,1,4,5,8,9] [2,3,6,7,10,11,12,13] [(false,14)] (Qqx (brf.drew)) ?_;simp only[jg]
 repeat(go_big_quiet_step(fail))
 refine Qqz ?_;refine⟨λj v g wk=>match j with|3=>pj t.heap.size p.ns v g wk|7=>pj t.heap.size p.ns v g wk|11=>pj t.heap.size p.ns v g wk|12=>Jc t.heap.size p.ns v g wk|13=>z5 t.heap.size v g wk|_=>g=[]/\v = .int .i64 p.ns,
  Qjx ⟨λv g w w' _ h=>h,Qjx ⟨λv g w w' z h=>pj.below h z,Qjx ⟨λv g w w' _ h=>h,Qjx ⟨λv g w w' z h=>pj.below h z,Qjx ⟨λv g w w' _ h=>h,Qjx ⟨λv g w w' z h=>pj.below h z,Qjx ⟨λv g w w' z h=>Jc.below h z,Qjx ⟨λv g w w' z h=>z5.below h z,Qjq _⟩⟩⟩⟩⟩⟩⟩⟩,
  Qjx ⟨λv g w h=>Jo,Qjx ⟨λv g w h=>pj.lt h,Qjx ⟨λv g w h=>Jo,Qjx ⟨λv g w h=>pj.lt h,Qjx ⟨λv g w h=>Jo,Qjx ⟨λv g w h=>pj.lt h,Qjx ⟨λv g w h=>by obtain⟨_,_,_,h1,_⟩:=h;rw[h1];intro x hx;simp at hx,Qjx ⟨λv g w h=>z5.lt h,Qjq _⟩⟩⟩⟩⟩⟩⟩⟩,
  Qjx ⟨?zs2,Qjx ⟨?zs3,Qjx ⟨?zs6,Qjx ⟨?zs7,Qjx ⟨?zs10,Qjx ⟨?zs11,Qjx ⟨?zs12,Qjx ⟨?zs13,Qjq _⟩⟩⟩⟩⟩⟩⟩⟩,?zdone⟩
 case zs2 =>
  exact S7
 case zs3 =>
  intro V G wk K hS hd hK;have hX:=ae hS;have h2:G 2=[]/\V 2 = .int .i64 p.ns:=hd 2 (Qjz ko) vq;exact Xi
 case zs6 =>
  exact S7
 case zs7 =>
  intro V G wk K hS hd hK;have hX:=ae hS;have h2:G 6=[]/\V 6 = .int .i64 p.ns:=hd 6 (Qjz ko) vq;exact Xi
 case zs10 =>
  exact S7
 case zs11 =>
  intro V G wk K hS hd hK;have hX:=ae hS;have h2:G 10=[]/\V 10 = .int .i64 p.ns:=hd 10 (Qjz ko) vq;exact Xi
 case zs12 =>
  intro V G wk K hS hd hK;obtain⟨m,-,h1,m1,D⟩:pj t.heap.size p.ns (V 3) (G 3) wk:=hd 3 (Qjz ko) vq;obtain⟨o,-,h2,m2,F⟩:pj t.heap.size p.ns (V 7) (G 7) wk:=hd 7 (Qjz ko) vq;obtain⟨r,-,h3,m3,J⟩:pj t.heap.size p.ns (V 11) (G 11) wk:=hd 11 (Qjz ko) vq;refine ai _ rfl ?_;simp only[bw,h1,h2,h3] at hK ⊢;go_wp2_with fail;exact hK _ [] _ hS brf (λx hx=>qm) ⟨m,o,r,rfl,rfl,⟨m1,D⟩,⟨m2,F⟩,⟨m3,J⟩⟩
 case zs13 =>
  intro V G wk K hS hd hK;exact aua
 case zdone =>
  intro V G wk hS hD hA;obtain⟨m,o,r,-,a6,⟨m1,D⟩,⟨m2,F⟩,⟨m3,J⟩⟩:Jc t.heap.size p.ns (V 12) (G 12) wk:=hD 12 vq;obtain⟨B,-,a7,mX,a⟩:z5 t.heap.size (V 13) (G 13) wk:=hD 13 vq;have hX:=ae hS;clear hS hD hA r1;have xl:=a.lt;have aw:=a.frozen 0;have av:=a.k 0;have bf:=a.frozen 1;have zc1:=a.k 1;have bg:=a.frozen 2;have zc2:=a.k 2;have bh:=a.frozen 3;have zc3:=a.k 3;have bi:=a.frozen 4;have zc4:=a.k 4;have bj:=a.frozen 5;have zc5:=a.k 5;have bk:=a.frozen 6;have be:=a.k 6;simp only[bw,a6,a7];refine bu 14 rfl ?_;go_wp2_with fail;have KZ:=pc a (.slice .none 0 0) (.slice .none 0 0) (.slice .none 0 0) (.slice .none 0 0) (.slice (some ⟨m,0,none⟩) p.ns p.ns) (.slice (some ⟨o,0,none⟩) p.ns p.ns) (.slice (some ⟨r,0,none⟩) p.ns p.ns);have hb:=lr hX mX (.slice .none 0 0) (.slice .none 0 0) (.slice .none 0 0) (.slice .none 0 0) (.slice (some ⟨m,0,none⟩) p.ns p.ns) (.slice (some ⟨o,0,none⟩) p.ns p.ns) (.slice (some ⟨r,0,none⟩) p.ns p.ns);have E:=nl D (Blk.ne D a dc) (.slice .none 0 0) (.slice .none 0 0) (.slice .none 0 0) (.slice .none 0 0) (.slice (some ⟨m,0,none⟩) p.ns p.ns) (.slice (some ⟨o,0,none⟩) p.ns p.ns) (.slice (some ⟨r,0,none⟩) p.ns p.ns);have H:=nl F (Blk.ne F a dc) (.slice .none 0 0) (.slice .none 0 0) (.slice .none 0 0) (.slice .none 0 0) (.slice (some ⟨m,0,none⟩) p.ns p.ns) (.slice (some ⟨o,0,none⟩) p.ns p.ns) (.slice (some ⟨r,0,none⟩) p.ns p.ns);have L:=nl J (Blk.ne J a dc) (.slice .none 0 0) (.slice .none 0 0) (.slice .none 0 0) (.slice .none 0 0) (.slice (some ⟨m,0,none⟩) p.ns p.ns) (.slice (some ⟨o,0,none⟩) p.ns p.ns) (.slice (some ⟨r,0,none⟩) p.ns p.ns);unfold set7 at KZ hb E H L
  generalize (((((((wk.setCell { block:=B,off:=0 } (Value.slice none 0 0)).setCell { block:=B,off:=1 } (Value.slice none 0 0)).setCell { block:=B,off:=2 } (Value.slice none 0 0)).setCell { block:=B,off:=3 } (Value.slice none 0 0)).setCell { block:=B,off:=4 } (Value.slice (some { block:=m,off:=0 }) p.ns p.ns)).setCell { block:=B,off:=5 } (Value.slice (some { block:=o,off:=0 }) p.ns p.ns)).setCell { block:=B,off:=6 } (Value.slice (some { block:=r,off:=0 }) p.ns p.ns))=WZ at *
  clear a D F J hX aw av bf zc1 bg zc2 bh zc3 bi zc4 bj zc5 bk be xl a6 a7;refine⟨fw.no (Qqx hb),?_⟩;refine NoPanic.normal ?_;go_wp2_with fail;have a5:Hid (aqa p t.heap.size B m o r 0 WZ):=⟨.slice .none 0 0,λ_=>0,KZ,World.ownsRow_nil _ _ _ _,λi hi=>absurd hi (Qzq _),E,H,L⟩;clear KZ E H L
  go_loopw [4] (λi wk=>∃k:Nat,k<=p.nb/\i = .int .i64 k/\Hid (aqa p t.heap.size B m o r k wk)/\Bw t wk) (λi _=>p.nb-(intOf i).toNat)
  case atStart=>exact⟨0,Qxz _,rfl,a5,hb⟩
  clear a5 hb;obtain⟨k,hk,rfl,HL,z⟩:=hrel;obtain⟨⟨l1,d0,d1⟩,hz,bv⟩:=HC.o wr z;by_cases dj:k<p.nb;rotate_left
  .have b9:k=p.nb:=ow;subst b9;obtain⟨v,G,a,ho,gr,D,F,J⟩:=HL.o;have hv:∃g c,v = .slice (some ⟨g,0,none⟩) p.nb c:=aob;obtain⟨A,T,rfl⟩:=hv;obtain⟨g',c',bd,bz,b7,b8,ak⟩:=Blk.ofOwns ho vq;simp only[co,Value.slice.injEq,true_and] at bd;obtain⟨rfl,rfl⟩:=bd;rw[Nat.mul_one] at ak;have kg:Blk wr A 23 p.nb (λi => .slice (some ⟨G i,0,none⟩) p.ns p.ns):=ak.congr (λj hj=>He);have a4:Hid (t.heap.size<=A/\∀i,i<p.nb->t.heap.size<=G i):=⟨b8,λi hi=>(gr i hi).1⟩;have y:Hid (Blk wr A 23 p.nb (λi => .slice (some ⟨G i,0,none⟩) p.ns p.ns)/\(∀i,i<p.nb->Blk wr (G i) 3 p.ns (λ_ => .int .i64 0))/\Blk wr m 3 p.ns (λ_ => .int .i64 0)/\Blk wr o 3 p.ns (λ_ => .int .i64 0)/\Blk wr r 3 p.ns (λ_ => .int .i64 0)):=⟨kg,λi hi=>(gr i hi).2,D,F,J⟩;clear ak kg;have HZ:=hid hz;have xl:=a.lt;obtain⟨b0,b1,b2,b3,b4,b5,b6⟩:=dp a;obtain⟨zl,aw,av,bf,zc1,bg,zc2,bh,zc3,bi,zc4,bj,zc5,bk,be⟩:=z7 hz;clear a ho gr D F J hz HL;go_wp2_with fail;have KZ:=pc HZ.o (.slice (some ⟨A,0,none⟩) p.nb T) (.slice .none 0 0) (.slice .none 0 0) (.slice .none 0 0) (.slice (some ⟨m,0,none⟩) p.ns p.ns) (.slice (some ⟨o,0,none⟩) p.ns p.ns) (.slice (some ⟨r,0,none⟩) p.ns p.ns);have bb:=lr (b:=w.heap.size+1) bv ow (.slice (some ⟨A,0,none⟩) p.nb T) (.slice .none 0 0) (.slice .none 0 0) (.slice .none 0 0) (.slice (some ⟨m,0,none⟩) p.ns p.ns) (.slice (some ⟨o,0,none⟩) p.ns p.ns) (.slice (some ⟨r,0,none⟩) p.ns p.ns);have Q:=nl y.o.1 (Blk.ne y.o.1 HZ.o dc) (.slice (some ⟨A,0,none⟩) p.nb T) (.slice .none 0 0) (.slice .none 0 0) (.slice .none 0 0) (.slice (some ⟨m,0,none⟩) p.ns p.ns) (.slice (some ⟨o,0,none⟩) p.ns p.ns) (.slice (some ⟨r,0,none⟩) p.ns p.ns);have ar:=λi (hi:i<p.nb)=>nl (y.o.2.1 i hi) (Blk.ne (y.o.2.1 i hi) HZ.o dc) (.slice (some ⟨A,0,none⟩) p.nb T) (.slice .none 0 0) (.slice .none 0 0) (.slice .none 0 0) (.slice (some ⟨m,0,none⟩) p.ns p.ns) (.slice (some ⟨o,0,none⟩) p.ns p.ns) (.slice (some ⟨r,0,none⟩) p.ns p.ns);have E:=nl y.o.2.2.1 (Blk.ne y.o.2.2.1 HZ.o dc) (.slice (some ⟨A,0,none⟩) p.nb T) (.slice .none 0 0) (.slice .none 0 0) (.slice .none 0 0) (.slice (some ⟨m,0,none⟩) p.ns p.ns) (.slice (some ⟨o,0,none⟩) p.ns p.ns) (.slice (some ⟨r,0,none⟩) p.ns p.ns);have H:=nl y.o.2.2.2.1 (Blk.ne y.o.2.2.2.1 HZ.o dc) (.slice (some ⟨A,0,none⟩) p.nb T) (.slice .none 0 0) (.slice .none 0 0) (.slice .none 0 0) (.slice (some ⟨m,0,none⟩) p.ns p.ns) (.slice (some ⟨o,0,none⟩) p.ns p.ns) (.slice (some ⟨r,0,none⟩) p.ns p.ns);have L:=nl y.o.2.2.2.2 (Blk.ne y.o.2.2.2.2 HZ.o dc) (.slice (some ⟨A,0,none⟩) p.nb T) (.slice .none 0 0) (.slice .none 0 0) (.slice .none 0 0) (.slice (some ⟨m,0,none⟩) p.ns p.ns) (.slice (some ⟨o,0,none⟩) p.ns p.ns) (.slice (some ⟨r,0,none⟩) p.ns p.ns);unfold set7 at KZ bb Q ar E H L
   generalize (((((((wr.setCell { block:=w.heap.size+1,off:=0 } (Value.slice (some { block:=A,off:=0 }) p.nb T)).setCell { block:=w.heap.size+1,off:=1 } (Value.slice none 0 0)).setCell { block:=w.heap.size+1,off:=2 } (Value.slice none 0 0)).setCell { block:=w.heap.size+1,off:=3 } (Value.slice none 0 0)).setCell { block:=w.heap.size+1,off:=4 } (Value.slice (some { block:=m,off:=0 }) p.ns p.ns)).setCell { block:=w.heap.size+1,off:=5 } (Value.slice (some { block:=o,off:=0 }) p.ns p.ns)).setCell { block:=w.heap.size+1,off:=6 } (Value.slice (some { block:=r,off:=0 }) p.ns p.ns))=WY at *
   obtain⟨c0,c1,c2,c3,c4,c5,c6⟩:=dp KZ;refine Xzq (v:=(⟨⟨some ⟨A,0,none⟩,p.nb,T,λi=>⟨some ⟨G i,0,none⟩,p.ns,p.ns,λ_=>0⟩⟩,⟨none,0,0,λ_=>⟨0,⟨none,0,0,λ_=>⟨0,0,0,0⟩⟩⟩⟩,⟨none,0,0,λ_=>⟨0,0,0,0⟩⟩,⟨none,0,0,λ_=>⟨0,0,0,0⟩⟩,⟨some ⟨m,0,none⟩,p.ns,p.ns,λ_=>0⟩,⟨some ⟨o,0,none⟩,p.ns,p.ns,λ_=>0⟩,⟨some ⟨r,0,none⟩,p.ns,p.ns,λ_=>0⟩⟩:St).val) (by simp[results,results15,go_sem,St.val,c0,c1,c2,c3,c4,c5,c6]) rfl ?_;refine⟨_,rfl,λdl dk U => ?_,⟨rfl,λi hi=>⟨rfl,λj hj=>rfl⟩,rfl,rfl,rfl,⟨rfl,λj hj=>rfl⟩,⟨rfl,λj hj=>rfl⟩,⟨rfl,λj hj=>rfl⟩⟩,bb⟩;have q0:=a4.o.1;have Q:=Q.same (U A ow Q.lt);refine⟨⟨bz,b7,λi hi => ?_⟩,⟨Nat.le_refl _,Qxz _,λi hi=>absurd hi (Qzq _)⟩,Hs.none _,Hs.none _,Eu (E.same (U m ow E.lt)) ns3,Eu (H.same (U o ow H.lt)) ns3,Eu (L.same (U r ow L.lt)) ns3⟩;have Y:i<p.nb:=hi;have q1:=a4.o.2 i Y;exact⟨A,0,rfl,Q.lt,by rw[Nat.zero_add];exact Q.cell Y,Eu ((ar i Y).same (U (G i) ow (ar i Y).lt)) ns3⟩
  obtain⟨v,G,a,ho,gr,D,F,J⟩:=HL.o;have y:=qa5 ho gr D F J;have HX:=hid a;have qk:(0:Int)<=(k:Int):=ow;have r0:=Qqq (a.k 0);have r1:=Qqq d1;clear a ho gr D F J hz;go_wp2_with fail;refine dg (λw'=>∃p:Regrown,w'=grow (redrawn wr p.d) p.os) [0,1,2,3] [4,5,6] [(true,7),(true,8),(true,9)] (Qqx (brf.drew)) ?_;simp only[jg]
  repeat(go_big_quiet_step(fail))
  refine Qqz ?_;refine⟨λj v g wk=>match j with|5=>pj wr.heap.size p.ns v g wk|6=>Fd wr.heap.size p.ns v g wk|_=>g=[]/\v = .int .i64 p.ns,
   Qjx ⟨λv g w w' _ h=>h,Qjx ⟨λv g w w' z h=>pj.below h z,Qjx ⟨λv g w w' z h=>Fd.below h z,Qjq _⟩⟩⟩,
   Qjx ⟨λv g w h=>Jo,Qjx ⟨λv g w h=>pj.lt h,Qjx ⟨λv g w h=>Fd.lt h,Qjq _⟩⟩⟩,
   Qjx ⟨?zt4,Qjx ⟨?zt5,Qjx ⟨?zt6,Qjq _⟩⟩⟩,?ztdone⟩
  case zt4 =>
   exact S7
  case zt5 =>
   intro V G wk K hS hd hK;have hX:=ae hS;have h2:G 4=[]/\V 4 = .int .i64 p.ns:=hd 4 (Qjz ko) vq;exact Xi
  case zt6 =>
   intro V G wk K hS hd hK;have hX:=ae hS;obtain⟨R,-,h5,m5,k5⟩:pj wr.heap.size p.ns (V 5) (G 5) wk:=hd 5 (Qjz ko) vq;refine ai _ rfl ?_;simp only[bw,h5] at hK ⊢;go_wp2_with fail;exact hK _ [wk.heap.size] _ (Qqx (hX.alloc hX.size _)) (brf.alloc nlr _) (λx hx=>Ej) ⟨wk.heap.size,R,rfl,rfl,hX.size,(Blk.mk' (cur:=#[.slice (some ⟨R,0,none⟩) p.ns p.ns]) rfl rfl).congr (λj hj=>by match j,hj with|0,_=>rfl),m5,k5.alloc _⟩
  case ztdone =>
   intro V G' wk hS hD hA;obtain⟨BO,R,-,h6,m6,k6,mR,kR⟩:Fd wr.heap.size p.ns (V 6) (G' 6) wk:=hD 6 vq;have hX:=ae hS;clear hS hD hA r0 r1;have ho:=ky y.o.1 hX;have a9:=z.trans (hX.mono z.size);have s0:=z.size;have s1:=hX.size;simp only[bw,h6];refine bu 7 rfl ?_;go_wp2_with(at_builtin;refine wpList_append_own _ rfl (.tmp 26) (.tmp 31) 31 rfl t.heap.size 23 i0 (.slice none 0 0) 1 24 underlying31 hi ch ci cj rfl dc _ _ _ rfl ho ⟨BO,0,none⟩ 1 1 [.slice (some ⟨R,0,none⟩) p.ns p.ns] rfl rfl ?zc1 ?zc2 ?zc3 ?zc4 ?zc5 ?_)
   case zc1 =>
    intro j u hj
    match j,hj with
    | 0,hj=>simp at hj;subst hj;exact k6.k 0
   case zc2=>exact Td
   case zc3=>unfold maxLen;omega
   case zc4=>omega
   case zc5=>omega
   intro v2 w2 hown2 l a0;have al:=ho.lt;have bt:Bw t w2:=a9.grown l ow (λq hq=>(al q hq).1);have M:=px ho l (HX.o.below hX) dc;have aq:=px ho l kR dc;have an:=px ho l (y.o.2.2.1.below hX) dc;have ao:=px ho l (y.o.2.2.2.1.below hX) dc;have ap:=px ho l (y.o.2.2.2.2.below hX) dc;have X:∀i,i<k->t.heap.size<=G i/\Blk w2 (G i) 3 p.ns (λ_ => .int .i64 0):=λi hi=>⟨(y.o.2.1 i hi).1,px ho l ((y.o.2.1 i hi).2.below hX) dc⟩;clear ho l a0 al kR k6 hX y HX a9 HL;have xl:=M.lt;have aw:=M.frozen 0;have av:=M.k 0;have S:∀q n f,Blk w2 q 3 n f->q≠B:=λq n f hq=>Blk.ne hq M dc;have ca:=bt.setCell (p:=⟨B,0,none⟩) mX v2;have KB:=M.set 0 v2;have HN:Hid (aqa p t.heap.size B m o r (k+1) (w2.setCell ⟨B,0,none⟩ v2)):=by
    refine⟨v2,λi=>if i=k then R else G i,KB.congr (λj hj=>by match j,hj with|0,_=>rfl|1,_=>rfl|2,_=>rfl|3,_=>rfl|4,_=>rfl|5,_=>rfl|6,_=>rfl),?_,λi hi => ?_,an.other (S _ _ _ an) _,ao.other (S _ _ _ ao) _,ap.other (S _ _ _ ap) _⟩
    .have e:(List.range (k+1)).map (λi=>Value.slice (some ⟨if i=k then R else G i,0,none⟩) p.ns p.ns)=((List.range k).map λi=>Value.slice (some ⟨G i,0,none⟩) p.ns p.ns)++[.slice (some ⟨R,0,none⟩) p.ns p.ns]:=amj;rw[e];exact wm hown2 M dc _ _
    dsimp only;by_cases bc:i=k
    .rw[if_pos bc];exact⟨ow,aq.other (S _ _ _ aq) _⟩
    rw[if_neg bc];exact⟨(X i ow).1,(X i ow).2.other (S _ _ _ (X i ow).2) _⟩
   have cd:∃g c,v2 = .slice (some ⟨g,0,none⟩) (k+1) c:=an5;clear aq an ao ap X S KB hown2 M;obtain⟨g2,c2,rfl⟩:=cd;refine o6 ⟨fw.yes,?_⟩;refine bu 8 rfl ?_;go_wp2_with fail;refine⟨fw.yes,?_⟩;refine bu 9 rfl ?_;go_wp2_with fail;refine⟨fw.yes,?_⟩;refine NoPanic.normal ?_;go_wp2_with fail;go_roundw
   case rel=>exact⟨k+1,ow,vo,HN,ca⟩
   case measure=>simp[intOf];omega
def DOn(A:Nat)(s:St)(v:Value)(g:List Nat)(wk:World):Prop:=∃(g0 c0:Nat) (G C:Nat->Nat),v = .slice (some ⟨g0,0,none⟩) s.on.n c0/\A<=g0/\s.on.n<=c0/\c0<=maxLen/\Blk wk g0 23 s.on.n (λi => .slice (some ⟨G i,0,none⟩) (s.on.r i).n (C i)) /\
 (∀i,i<s.on.n->A<=G i/\(s.on.r i).n<=C i/\C i<=maxLen/\Blk wk (G i) 3 (s.on.r i).n (λj => .int .i64 ((s.on.r i).z j)))/\(∀i j,i<j->j<s.on.n->G i<G j)/\g=(List.range s.on.n).map G
theorem DOn.below{g:List Nat}(h:DOn A s v g w)(d:Bw w w'):DOn A s v g w':=by
 obtain⟨f,e,G,C,j,k,c,b,l,a,m,n⟩:=h;exact⟨f,e,G,C,j,k,c,b,l.below d,λi hi=>⟨(a i hi).1,(a i hi).2.1,(a i hi).2.2.1,(a i hi).2.2.2.below d⟩,m,n⟩
theorem DOn.lt{g:List Nat}(h:DOn A s v g w):∀x∈g,x<w.heap.size:=by
 obtain⟨d,c,G,C,e,f,b,a,j,h4,k,rfl⟩:=h;exact an0
def DE(v:Value)(g:List Nat):Prop:=∃B:Nat,g=[]/\v = .slice (some ⟨B,0,none⟩) 0 0
def Pv(A:Nat)(s:St)(v:Value)(g:List Nat)(wk:World):Prop:=g=[]/\∃x2 g2 x6 g6 x10 g10 x14 g14 x18 g18 x22 g22,v = .agg #[x2,.slice .none 0 0,x6,x10,x14,x18,x22]/\DOn A s x2 g2 wk/\DHs A 107 s.hs x6 g6 wk/\DHs A 110 s.ms x10 g10 wk /\
 lp A s.si x14 g14 wk/\lp A s.so x18 g18 wk/\lp A s.sf x22 g22 wk/\(∀x∈g2,x ∉ g14)/\(∀x∈g2,x ∉ g18)/\(∀x∈g2,x ∉ g22)/\(∀x∈g14,x ∉ g18)/\(∀x∈g14,x ∉ g22)/\(∀x∈g18,x ∉ g22)
theorem Pv.below{g:List Nat}(h:Pv A s v g w)(i:Bw w w'):Pv A s v g w':=by
 obtain⟨x,z,t,B,u,n,j,o,k,p,l,q,m,y,a,b,c,d,e,f,r⟩:=h;exact⟨x,z,t,B,u,n,j,o,k,p,l,q,m,y,a.below i,b.below i,c.below i,d.below i,e.below i,f.below i,r⟩
theorem ki.grownO{B:Nat}{b:World}{r:Rw}{size:Nat}(h:ki A w r)(l:w.ownsRow B e size v n xs)(k:w.grownBy b v.ownBlock)(a:3≠e):ki A b r:=by
 obtain⟨g,i,c,d,f,j⟩:=h;exact⟨g,i,c,d,f,px l k j a⟩
theorem ct.grownO{B:Nat}{b:World}{s:Hs}{size:Nat}(h:ct A t w s)(o:w.ownsRow B e size v n xs)(l:w.grownBy b v.ownBlock)(a:t≠e):ct A t b s:=by
 obtain⟨c,d,f,i⟩:=h;refine⟨c,d,f,λm => ?_⟩;obtain⟨g,j,hA,k⟩:=i m;exact⟨g,j,hA,px o l k a⟩
theorem gp.grownO{B:Nat}{j:World}{a:Option Addr}{size:Nat}(h:gp A w t r a c)(p:w.ownsRow B e size v n xs)(o:w.grownBy j v.ownBlock)(i:t≠e):gp A j t r a c:=by
 refine h.same λg cur b=>o.block g (Qkq b).1 λf => ?_;rcases p.2 with⟨rfl,_⟩|⟨q,l,m,rfl,_,d,k⟩
 .simp[Value.ownBlock] at f
 simp only[Value.ownBlock,Qkx] at f;subst f;rw[b] at d;cases d;exact i rfl
theorem ah.grownO{B:Nat}{e:World}{size:Nat}(h:ah A w s)(p:s.os.n=0)(d:s.os.c=0)(b:w.ownsRow B 124 size v n xs)(a:w.grownBy e v.ownBlock):ah A e s:=by
 refine⟨?_,λi hi=>(h.rows i hi).grownO b a dc,h.rapart,⟨h.os.le,h.os.cap,λo=>absurd o ow,λi hi=>absurd hi ow,h.os.apart,Or.inl d⟩,h.hs.grownO b a dc,h.ms.grownO b a dc,h.msr.grownO b a dc,h.si.grownO b a dc,h.so.grownO b a dc,h.sf.grownO b a dc,h.aio,h.aif,h.aof,h.ari⟩;obtain⟨g,l,f,j,k,m⟩:=h.on;exact⟨g,l,f,j,k,px b a m dc⟩
theorem ah.below(h:ah A w s)(a:Bw w w'):ah A w' s:=by
 refine⟨?_,λi hi=>(h.rows i hi).below a,h.rapart,h.os.below a,h.hs.below a,h.ms.below a,h.msr.below a,h.si.below a,h.so.below a,h.sf.below a,h.aio,h.aif,h.aof,h.ari⟩;obtain⟨g,e,b,c,d,f⟩:=h.on;exact⟨g,e,b,c,d,f.below a⟩
def Qq(A:Nat)(s:St)(Ls:Nat->Od)(i:Nat)(wk:World):Prop:=(Ls i).k=(s.os.z i).k/\(Ls i).ls.n=(s.os.z i).ls.n/\(∀j,j<(s.os.z i).ls.n->(Ls i).ls.z j=(s.os.z i).ls.z j)/\∃B,(Ls i).ls.a=some ⟨B,0,none⟩/\A<=B/\(Ls i).ls.n<=(Ls i).ls.c/\(Ls i).ls.c<=maxLen/\Blk wk B 115 ((Ls i).ls.n*4) (λj=>(ba (Ls i).ls.n (Ls i).ls.z).getD j default)
def aqo(A A0:Nat)(s s0:St)(BX k:Nat)(wk:World):Prop:=∃(v:Value) (Ls:Nat->Od),Blk wk BX 36 7 (λj=>(#[.slice s0.on.a s0.on.n s0.on.c,v,.slice s0.hs.a s0.hs.n s0.hs.c,.slice s0.ms.a s0.ms.n s0.ms.c,.slice s0.si.a s0.si.n s0.si.c,.slice s0.so.a s0.so.n s0.so.c,.slice s0.sf.a s0.sf.n s0.sf.c]:Array Value).getD j default) /\
 wk.ownsRow A0 124 2 v k (ke k Ls)/\(∀i,i<k->Qq A s Ls i wk)/\(∀i j,i<j->j<k->(Ls i).ls.a≠(Ls j).ls.a)/\ah A wk s0
def D16(A:Nat)(x:Od)(v:Value)(g:List Nat)(wk:World):Prop:=∃s':Hs,g=[]/\v = .agg #[.int .i64 x.k,.slice s'.a s'.n s'.c]/\uq A 115 x.ls wk s'
theorem D16.below{x:Od}{g:List Nat}(h:D16 A x v g w)(hB:Bw w w'):D16 A x v g w':=aok
def D17(A:Nat)(x:Od)(v:Value)(g:List Nat)(wk:World):Prop:=∃(B:Nat) (s':Hs),g=[]/\v = .slice (some ⟨B,0,none⟩) 1 1/\A<=B/\Blk wk B 124 2 (λj=>(#[.int .i64 x.k,.slice s'.a s'.n s'.c]:Array Value).getD j default)/\uq A 115 x.ls wk s'
theorem D17.below{x:Od}{g:List Nat}(h:D17 A x v g w)(a:Bw w w'):D17 A x v g w':=by
 obtain⟨B,k,b,c,d,e,f,i,j,h8⟩:=h;exact⟨B,k,b,c,d,e.below a,f,i,j.below a,h8.below a⟩
theorem Ir{B:Nat}{s:Hs}(m:0<s.n)(hown:w.ownsRow B e 4 v s.n (ba s.n s.z))(hA:A<=B):∃b:Hs,v = .slice b.a b.n b.c/\uq A e s w b:=by
 have l:v ≠ .slice none 0 0:=aoj;obtain⟨b,d,f,g,i,k⟩:=ct.ofOwns hown l;exact⟨b,d,f,λj _=>by rw[g],i.mono hA,k.mono hA⟩
theorem Pb{s:Hs}(B:Nat)(a:s.n=0):uq A e s w ⟨some ⟨B,0,none⟩,0,0,s.z⟩:=⟨a.symm,λj b=>rfl,⟨Nat.le_refl _,Qxz _,(λh=>ix),λh=>absurd h (Nat.lt_irrefl _)⟩,Or.inl rfl⟩
theorem Ot{s:Hs}(h:s.At w):∀c,s.a=some c->∀j u,(ba s.n s.z)[j]?=some u->w.cell? (c.add j)=some u:=λc g j u i=>by
 have f:=(List.getElem?_eq_some_iff.1 i).1;rw[iz] at f;have e:=h.hds;obtain⟨b,o,d,k,-⟩:=e 0 ow;rw[g] at d;simp only[Qkx] at d;subst d;rw[g] at e;exact jx.news e j u i
theorem Ua{s:Hs}(h:s.At w)(b:s.a=none):s.n=0:=by
 have:=h.nilc b;have:=h.le;omega
theorem ai0{B:Nat}{r:Rw}(i:0<r.n)(hown:w.ownsRow B 3 1 v r.n ((List.range r.n).map λj=>Value.int .i64 (r.z j)))(hA:A<=B):∃g c,v = .slice (some ⟨g,0,none⟩) r.n c/\B<=g/\lp A r v [g] w:=by
 have f:v ≠ .slice none 0 0:=aoj;obtain⟨g,c,rfl,b,d,e,a⟩:=Blk.ofOwns hown f;rw[Nat.mul_one] at a;exact⟨g,c,rfl,e,g,c,rfl,rfl,ow,b,d,a.congr (λj hj=>He)⟩
theorem Um{r:Rw}(h:r.At w):∀d,r.a=some d->∀j u,((List.range r.n).map λj=>Value.int .i64 (r.z j))[j]?=some u->w.cell? (d.add j)=some u:=λd f j u hj=>by
 have c:j<r.n:=ab8;obtain⟨b,o,e,g,hc⟩:=h.ints j c;rw[f] at e;simp only[Qkx] at e;subst e;rw[Go.WideShapes.add_plain,hc];simp[c] at hj;rw[hj]
theorem Un{r:Rw}(h:r.At w)(e:r.a=none):r.n=0:=by
 rcases Nat.eq_zero_or_pos r.n with c|c
 .exact c
 obtain⟨b,o,d,_⟩:=h.ints 0 c;rw[e] at d;cases d
theorem su(p:Pl)(s:St)(w:World)(hs:s.At w)(f:cu p s):
  Calls prog 105 #[s.val] w λe w'=>∃s':St,e = .returned s'.val/\af s' s/\ah w.heap.size w' s'/\Bw w w':=by
 obtain⟨W0,hW,au,X0,Z0⟩:∃W,((w.alloc (.cells s.cells 36)).alloc (.cells #[.slice .none 0 0,.slice .none 0 0,.slice .none 0 0,.slice .none 0 0,.slice .none 0 0,.slice .none 0 0,.slice .none 0 0] 36))=W/\Bw w W/\Blk W w.heap.size 36 7 (λj=>s.cells.getD j default)/\Blk W (w.heap.size+1) 36 7 (λ_ => .slice .none 0 0):=
  ⟨_,rfl,dx _ _ _,(Blk.mk' rfl rfl).alloc _,(Blk.mk' (cur:=#[.slice .none 0 0,.slice .none 0 0,.slice .none 0 0,.slice .none 0 0,.slice .none 0 0,.slice .none 0 0,.slice .none 0 0]) vq rfl).congr (λj hj=>by match j,hj with|0,_=>rfl|1,_=>rfl|2,_=>rfl|3,_=>rfl|4,_=>rfl|5,_=>rfl|6,_=>rfl)⟩
 unfold St.cells at hW;have HW:=hid hW;have HS:=hid (hs.below au);have HF:=hid f;have HC:Hid (∀wk,Bw W0 wk->Boxed wk w.heap.size s/\Blk wk (w.heap.size+1) 36 7 (λ_ => .slice .none 0 0)/\s.At wk/\Bw w wk):=λwk h=>⟨Boxed.of (X0.below h),Z0.below h,(hs.below au).below h,au.trans (h.mono au.size)⟩;have gq:=au.size;have hr:=Z0.lt;have ns1:=f.sh.pl.ns1;have ns3:=f.sh.pl.ns3;have g8:=f.hs72;have ms8:=f.ms8;obtain⟨l1,D,c1,c2,c3,c4,c5,c6⟩:=Boxed.of X0;have r0:=Qqq D;have r2:=Qqq c2;have r3:=Qqq c3;have r4:=Qqq c4;have r5:=Qqq c5;have r6:=Qqq c6;obtain⟨iI,hI,bf,bg,bh⟩:=info_parts Ad;obtain⟨iH,hH,eu,ev,ew⟩:=info_parts Nb;obtain⟨iM,hM,e0,e3,e4⟩:=info_parts Vl;obtain⟨iL,hL,ex,ey,ez⟩:=info_parts Ed;obtain⟨iO,hO,e5,e7,e8⟩:=info_parts Fl;clear hW X0 Z0 hs f D c1 c2 c3 c4 c5 c6;unfold St.val;go_enter func105,ntmps105;go_wp2_with fail;rw[HW.o];refine vw (λw'=>∃p:Regrown,w'=grow (redrawn W0 p.d) p.os) [0,1,4,5,8,9,12,13,16,17,20,21] [2,3,6,7,10,11,14,15,18,19,22,23,24] [(false,25)] (Qqx (brf.drew)) ?_;simp only[jg]
 repeat(go_big_quiet_step(fail))
 refine Qqz ?_;clear r0 r2 r3 r4 r5 r6;refine⟨λj v g wk=>match j with|2=>DOn w.heap.size s v g wk|6=>DHs w.heap.size 107 s.hs v g wk|10=>DHs w.heap.size 110 s.ms v g wk|14=>lp w.heap.size s.si v g wk|18=>lp w.heap.size s.so v g wk|22=>lp w.heap.size s.sf v g wk|23=>Pv w.heap.size s v g wk|24=>z5 W0.heap.size v g wk|_=>DE v g,
  ?zmono,?zlow,?zstep,?zdone⟩
 case zmono =>
  intro j hj v g w w' J h;simp only[List.mem_cons,List.not_mem_nil,or_false] at hj;rcases hj with rfl|rfl|rfl|rfl|rfl|rfl|rfl|rfl|rfl|rfl|rfl|rfl|rfl
  .exact DOn.below h J
  .exact h
  .exact DHs.below h J
  .exact h
  .exact DHs.below h J
  .exact h
  .exact lp.below h J
  .exact h
  .exact lp.below h J
  .exact h
  .exact lp.below h J
  .exact Pv.below h J
  exact z5.below h J
 case zlow =>
  intro j hj v g w h;simp only[List.mem_cons,List.not_mem_nil,or_false] at hj;rcases hj with rfl|rfl|rfl|rfl|rfl|rfl|rfl|rfl|rfl|rfl|rfl|rfl|rfl
  .exact DOn.lt h
  .exact Hh
  .exact Hh
  .exact Hh
  .exact Hh
  .exact Hh
  .exact lp.lt h
  .exact Hh
  .exact lp.lt h
  .exact Hh
  .exact lp.lt h
  .obtain⟨h1,_⟩:=h;rw[h1];intro x hx;simp at hx
  exact z5.lt h
 case zstep =>
  intro i hi;simp only[List.mem_cons,List.not_mem_nil,or_false] at hi;rcases hi with rfl|rfl|rfl|rfl|rfl|rfl|rfl|rfl|rfl|rfl|rfl|rfl|rfl
  .intro V G wk K hS hd hA hK;have hX:=ae hS;have q:=hX.size;refine ai _ rfl ?_;simp only[bw] at hK ⊢;go_wp2_with fail;refine(ajj s.on wk (HS.o.on.below hX) atn (by rw[HF.o.sh.n];exact HF.o.sh.pl.nb1) (λi hi=>by rw[HF.o.sh.len i hi];exact⟨ns1,ns3⟩)).mono ?_;rintro e w2 ⟨H,D,L,Cr,rfl,a1,ax,aq,a2,a3,a4,cn⟩;go_wp2_with fail;refine hK _ ((List.range s.on.n).map L) _ (Qqx (hX.trans (cn.mono hX.size))) cn (λx hx => ?_) ⟨H,D,L,Cr,rfl,ow,ax,aq,a2,λi hi=>⟨by have:=(a3 i hi).1;omega,(a3 i hi).2⟩,a4,rfl⟩;obtain⟨i,hi,rfl⟩:=List.mem_map.1 hx;exact(a3 i (List.mem_range.1 hi)).1
  .exact L5
  .intro V G wk K hS hd hA hK;have hX:=ae hS;have q:=hX.size;obtain⟨B,-,h3⟩:DE (V 3) (G 3):=hd 3 (Qjz ko) vq;refine ai _ rfl ?_;simp only[bw,h3] at hK ⊢;go_wp2_with(at_builtin;refine ri wk rfl (.tmp 8) (.tmp 10) 33 rfl 107 iH (.agg #[.int .i64 0,.int .i64 0,.int .i64 0,.int .i64 0]) 4 32 underlying33 hH eu ev ew rfl dc B rfl s.hs.a s.hs.n s.hs.c (ba s.hs.n s.hs.z) rfl Sy (Ot (HS.o.hs.below hX)) (ot _ _) (Ua (HS.o.hs.below hX)) uo ow ?_ ?_)
   .intro h0;exact o6 (hK _ [] _ hS brf (λx hx=>qm) ⟨⟨some ⟨B,0,none⟩,0,0,s.hs.z⟩,rfl,rfl,Pb B h0⟩)
   exact aur
  .exact L5
  .intro V G wk K hS hd hA hK;have hX:=ae hS;have q:=hX.size;obtain⟨B,-,h3⟩:DE (V 7) (G 7):=hd 7 (Qjz ko) vq;refine ai _ rfl ?_;simp only[bw,h3] at hK ⊢;go_wp2_with(at_builtin;refine ri wk rfl (.tmp 12) (.tmp 14) 34 rfl 110 iM (.agg #[.int .i64 0,.int .i64 0,.int .i64 0,.int .i64 0]) 4 32 underlying34 hM e0 e3 e4 rfl dc B rfl s.ms.a s.ms.n s.ms.c (ba s.ms.n s.ms.z) rfl Sy (Ot (HS.o.ms.below hX)) (ot _ _) (Ua (HS.o.ms.below hX)) uo ow ?_ ?_)
   .intro h0;exact o6 (hK _ [] _ hS brf (λx hx=>qm) ⟨⟨some ⟨B,0,none⟩,0,0,s.ms.z⟩,rfl,rfl,Pb B h0⟩)
   exact aur
  .exact L5
  .intro V G wk K hS hd hA hK;have hX:=ae hS;have q:=hX.size;obtain⟨B,-,h3⟩:DE (V 11) (G 11):=hd 11 (Qjz ko) vq;have HN:=hid HF.o.sin;refine ai _ rfl ?_;simp only[bw,h3] at hK ⊢;go_wp2_with(at_builtin;refine ri wk rfl (.tmp 16) (.tmp 18) 23 rfl 3 iI (.int .i64 0) 1 8 underlying23 hI bf bg bh rfl dc B rfl s.si.a s.si.n s.si.c ((List.range s.si.n).map λj=>Value.int .i64 (s.si.z j)) rfl vq (Um (HS.o.si.below hX)) (λu hu=>agv) (Un (HS.o.si.below hX)) Z7 Sw ?_ ?_)
   .exact acd
   exact ahb
  .exact L5
  .intro V G wk K hS hd hA hK;have hX:=ae hS;have q:=hX.size;obtain⟨B,-,h3⟩:DE (V 15) (G 15):=hd 15 (Qjz ko) vq;have HN:=hid HF.o.son;refine ai _ rfl ?_;simp only[bw,h3] at hK ⊢;go_wp2_with(at_builtin;refine ri wk rfl (.tmp 20) (.tmp 22) 23 rfl 3 iI (.int .i64 0) 1 8 underlying23 hI bf bg bh rfl dc B rfl s.so.a s.so.n s.so.c ((List.range s.so.n).map λj=>Value.int .i64 (s.so.z j)) rfl vq (Um (HS.o.so.below hX)) (λu hu=>agv) (Un (HS.o.so.below hX)) Z7 Sw ?_ ?_)
   .exact acd
   exact ahb
  .exact L5
  .intro V G wk K hS hd hA hK;have hX:=ae hS;have q:=hX.size;obtain⟨B,-,h3⟩:DE (V 19) (G 19):=hd 19 (Qjz ko) vq;have HN:=hid HF.o.sfn;refine ai _ rfl ?_;simp only[bw,h3] at hK ⊢;go_wp2_with(at_builtin;refine ri wk rfl (.tmp 24) (.tmp 26) 23 rfl 3 iI (.int .i64 0) 1 8 underlying23 hI bf bg bh rfl dc B rfl s.sf.a s.sf.n s.sf.c ((List.range s.sf.n).map λj=>Value.int .i64 (s.sf.z j)) rfl vq (Um (HS.o.sf.below hX)) (λu hu=>agv) (Un (HS.o.sf.below hX)) Z7 Sw ?_ ?_)
   .exact acd
   exact ahb
  rotate_left
  .intro V G wk K hS hd hA hK;exact aua
  intro V G wk K hS hd hA hK;have e2:DOn w.heap.size s (V 2) (G 2) wk:=hd 2 (Qjz ko) vq;have e6:DHs w.heap.size 107 s.hs (V 6) (G 6) wk:=hd 6 (Qjz ko) vq;have e10:DHs w.heap.size 110 s.ms (V 10) (G 10) wk:=hd 10 (Qjz ko) vq;have cj:lp w.heap.size s.si (V 14) (G 14) wk:=hd 14 (Qjz ko) vq;have ck:lp w.heap.size s.so (V 18) (G 18) wk:=hd 18 (Qjz ko) vq;have cl:lp w.heap.size s.sf (V 22) (G 22) wk:=hd 22 (Qjz ko) vq;have HD:Hid (Pv w.heap.size s (.agg #[V 2,.slice .none 0 0,V 6,V 10,V 14,V 18,V 22]) [] wk):=⟨rfl,V 2,G 2,V 6,G 6,V 10,G 10,V 14,G 14,V 18,G 18,V 22,G 22,rfl,e2,e6,e10,cj,ck,cl,hA 2 (Qjz ko) 14 (Qjz ko) vq vq dc,hA 2 (Qjz ko) 18 (Qjz ko) vq vq dc,hA 2 (Qjz ko) 22 (Qjz ko) vq vq dc,hA 14 (Qjz ko) 18 (Qjz ko) vq vq dc,hA 14 (Qjz ko) 22 (Qjz ko) vq vq dc,hA 18 (Qjz ko) 22 (Qjz ko) vq vq dc⟩;obtain⟨H,D,L,Cr,v2,-⟩:=e2;obtain⟨l,-,v6,-⟩:=e6;obtain⟨m',-,c8,-⟩:=e10;obtain⟨t,M,-,c9,-⟩:=cj;obtain⟨y,Q,-,da,-⟩:=ck;obtain⟨E,S,-,db,-⟩:=cl;have bc:=HD.o;rw[v2,v6,c8,c9,da,db] at bc;have d8:=hid bc;clear HD bc hA hd;refine ai _ rfl ?_;simp only[bw,v2,v6,c8,c9,da,db] at hK ⊢;go_wp2_with fail;exact hK _ [] _ hS brf (λx hx=>qm) d8.o
 case zdone =>
  intro V G wk hS hD hA;obtain⟨-,x2,g2,x6,g6,hh,g3,hl,g4,hn,g5,hp,g7,dd,⟨H,D,L,Cr,rfl,a1,ax,aq,a2,a3,a4,rfl⟩,⟨l,-,rfl,d1,d2,d3,-⟩,⟨m',-,rfl,f1,f2,f3,f4⟩,⟨t,M,rfl,rfl,i1,i2,i3,i4⟩,⟨y,Q,rfl,rfl,j1,j2,j3,j4⟩,⟨E,S,rfl,rfl,l2,l3,l4,l5⟩,n1,n2,n3,n4,n5,n6⟩:Pv w.heap.size s (V 23) (G 23) wk:=hD 23 vq;obtain⟨U,-,cm,mX,o⟩:z5 W0.heap.size (V 24) (G 24) wk:=hD 24 vq;have hX:=ae hS;have cy:t≠y:=λe=>n4 t vq Jw;have cz:t≠E:=λe=>n5 t vq Jw;have c7:y≠E:=λe=>n6 y vq Jw;have nr:∀i,i<s.on.n->L i≠t/\L i≠y/\L i≠E:=λi hi=>by
   have hm:L i∈(List.range s.on.n).map L:=List.mem_map.2 ⟨i,List.mem_range.2 hi,rfl⟩;exact⟨λe=>n1 _ hm Jw,λe=>n2 _ hm Jw,λe=>n3 _ hm Jw⟩
  have HR:Hid (ah w.heap.size wk ⟨⟨some ⟨H,0,none⟩,s.on.n,D,λi=>⟨some ⟨L i,0,none⟩,(s.on.r i).n,Cr i,(s.on.r i).z⟩⟩,⟨none,0,0,λ_=>⟨0,⟨none,0,0,λ_=>⟨0,0,0,0⟩⟩⟩⟩,l,m',⟨some ⟨t,0,none⟩,s.si.n,M,s.si.z⟩,⟨some ⟨y,0,none⟩,s.so.n,Q,s.so.z⟩,⟨some ⟨E,0,none⟩,s.sf.n,S,s.sf.z⟩⟩):=by
   refine⟨⟨H,rfl,a1,ax,aq,a2⟩,λi hi=>⟨L i,rfl,(a3 i hi).1,(a3 i hi).2.1,(a3 i hi).2.2.1,(a3 i hi).2.2.2⟩,λi j ay hj => ?_,⟨Nat.le_refl _,Qxz _,λh=>absurd h (Nat.lt_irrefl _),λi hi=>absurd hi (Qzq _),λi j _ hj=>absurd hj (Qzq _),Or.inl rfl⟩,d3,f3,f4,⟨t,rfl,i1,i2,i3,i4⟩,⟨y,rfl,j1,j2,j3,j4⟩,⟨E,rfl,l2,l3,l4,l5⟩,?_,?_,?_,λi hi => ?_⟩
   .have:=a4 i j ay hj;exact Te
   .intro e;simp only[co] at e;exact cy e
   .intro e;simp only[co] at e;exact cz e
   .intro e;simp only[co] at e;exact c7 e
   exact ama
  have cd:Hid ((l.n=s.hs.n/\∀j,j<l.n->l.z j=s.hs.z j)/\(m'.n=s.ms.n/\∀j,j<m'.n->m'.z j=s.ms.z j)):=⟨⟨d1,λj hj=>d2 j (by rw[<-d1];exact hj)⟩,⟨f1,λj hj=>f2 j (by rw[<-f1];exact hj)⟩⟩;clear hD hA a1 ax aq a2 a3 a4 d1 d2 d3 f1 f2 f3 f4 i1 i2 i3 i4 j1 j2 j3 j4 l2 l3 l4 l5 n1 n2 n3 n4 n5 n6 cy cz c7 nr hS;have bd:=hid o;have xl:=o.lt;have bt:=o.frozen 0;have bs:=o.k 0;have df:=o.frozen 1;have zc1:=o.k 1;have dg:=o.frozen 2;have zc2:=o.k 2;have dh:=o.frozen 3;have zc3:=o.k 3;have di:=o.frozen 4;have zc4:=o.k 4;have dj:=o.frozen 5;have zc5:=o.k 5;have dk:=o.frozen 6;have de:=o.k 6;clear o;simp only[bw,dd,cm];refine bu 25 rfl ?_;go_wp2_with fail;have KZ:=pc bd.o (.slice (some ⟨H,0,none⟩) s.on.n D) (.slice .none 0 0) (.slice l.a l.n l.c) (.slice m'.a m'.n m'.c) (.slice (some ⟨t,0,none⟩) s.si.n M) (.slice (some ⟨y,0,none⟩) s.so.n Q) (.slice (some ⟨E,0,none⟩) s.sf.n S);have hb:=lr hX mX (.slice (some ⟨H,0,none⟩) s.on.n D) (.slice .none 0 0) (.slice l.a l.n l.c) (.slice m'.a m'.n m'.c) (.slice (some ⟨t,0,none⟩) s.si.n M) (.slice (some ⟨y,0,none⟩) s.so.n Q) (.slice (some ⟨E,0,none⟩) s.sf.n S);have ap:=ah.set7 HR.o bd.o (.slice (some ⟨H,0,none⟩) s.on.n D) (.slice .none 0 0) (.slice l.a l.n l.c) (.slice m'.a m'.n m'.c) (.slice (some ⟨t,0,none⟩) s.si.n M) (.slice (some ⟨y,0,none⟩) s.so.n Q) (.slice (some ⟨E,0,none⟩) s.sf.n S);unfold set7 at KZ hb ap
  generalize (((((((wk.setCell { block:=U,off:=0 } (Value.slice (some { block:=H,off:=0 }) s.on.n D)).setCell { block:=U,off:=1 } (Value.slice none 0 0)).setCell { block:=U,off:=2 } (Value.slice l.a l.n l.c)).setCell { block:=U,off:=3 } (Value.slice m'.a m'.n m'.c)).setCell { block:=U,off:=4 } (Value.slice (some { block:=t,off:=0 }) s.si.n M)).setCell { block:=U,off:=5 } (Value.slice (some { block:=y,off:=0 }) s.so.n Q)).setCell { block:=U,off:=6 } (Value.slice (some { block:=E,off:=0 }) s.sf.n S))=WZ at *
  clear hX bt bs df zc1 dg zc2 dh zc3 di zc4 dj zc5 dk de xl dd cm;refine⟨fw.no (Qqx hb),?_⟩;refine NoPanic.normal ?_;go_wp2_with fail;have cf:Hid (aqo w.heap.size W0.heap.size s ⟨⟨some ⟨H,0,none⟩,s.on.n,D,λi=>⟨some ⟨L i,0,none⟩,(s.on.r i).n,Cr i,(s.on.r i).z⟩⟩,⟨none,0,0,λ_=>⟨0,⟨none,0,0,λ_=>⟨0,0,0,0⟩⟩⟩⟩,l,m',⟨some ⟨t,0,none⟩,s.si.n,M,s.si.z⟩,⟨some ⟨y,0,none⟩,s.so.n,Q,s.so.z⟩,⟨some ⟨E,0,none⟩,s.sf.n,S,s.sf.z⟩⟩ U 0 WZ):=⟨.slice .none 0 0,λ_=>⟨0,⟨none,0,0,λ_=>⟨0,0,0,0⟩⟩⟩,KZ,World.ownsRow_nil _ _ _ _,λi hi=>absurd hi (Qzq _),λi j _ hj=>absurd hj (Qzq _),ap⟩;clear KZ HR ap bd;have os4:=HF.o.os4;have hg:=HS.o.os.le;have dy:=HS.o.os.cap;unfold maxLen at dy
  go_loopw [4] (λi wk=>∃k:Nat,k<=s.os.n/\i = .int .i64 k/\Hid (aqo w.heap.size W0.heap.size s ⟨⟨some ⟨H,0,none⟩,s.on.n,D,λi=>⟨some ⟨L i,0,none⟩,(s.on.r i).n,Cr i,(s.on.r i).z⟩⟩,⟨none,0,0,λ_=>⟨0,⟨none,0,0,λ_=>⟨0,0,0,0⟩⟩⟩⟩,l,m',⟨some ⟨t,0,none⟩,s.si.n,M,s.si.z⟩,⟨some ⟨y,0,none⟩,s.so.n,Q,s.so.z⟩,⟨some ⟨E,0,none⟩,s.sf.n,S,s.sf.z⟩⟩ U k wk)/\Bw W0 wk) (λi _=>s.os.n-(intOf i).toNat)
  case atStart=>exact⟨0,Qxz _,rfl,cf,hb⟩
  clear cf hb;obtain⟨k,hk,rfl,HL,J⟩:=hrel;obtain⟨⟨lb,b0,b1,b2,b3,b4,b5,b6⟩,hz,bm,et⟩:=HC.o wr J;by_cases cw:k<s.os.n;rotate_left
  .have fa:k=s.os.n:=ow;subst fa;obtain⟨v,Ls,o,T,Y,av,m⟩:=HL.o;have hv:∃va vc,v = .slice va s.os.n vc/\s.os.n<=vc/\vc<=maxLen/\(0<s.os.n->∃g,va=some ⟨g,0,none⟩/\w.heap.size<=g/\Blk wr g 124 (s.os.n*2) (λj=>(ke s.os.n Ls).getD j default)):=by
    by_cases bn:v = .slice none 0 0
    .have h0:s.os.n=0:=by
      rcases T.2 with⟨_,h0⟩|⟨g2,cap2,cur2,h,_⟩
      .exact h0
      rw[bn] at h;cases h
     exact⟨none,0,by rw[bn,h0],ow,Qxz _,λh=>ow⟩
    obtain⟨g,c,rfl,h1,h2,h3,h4⟩:=Blk.ofOwns T bn;exact⟨some ⟨g,0,none⟩,c,rfl,h1,h2,λ_=>⟨g,rfl,ow,h4⟩⟩
   obtain⟨va,vc,rfl,v1,v2,v3⟩:=hv;have v4:gp w.heap.size wr 124 2 va vc:=gp.ofOwns T ow;have HR:Hid (ah w.heap.size wr ⟨⟨some ⟨H,0,none⟩,s.on.n,D,λi=>⟨some ⟨L i,0,none⟩,(s.on.r i).n,Cr i,(s.on.r i).z⟩⟩,⟨va,s.os.n,vc,Ls⟩,l,m',⟨some ⟨t,0,none⟩,s.si.n,M,s.si.z⟩,⟨some ⟨y,0,none⟩,s.so.n,Q,s.so.z⟩,⟨some ⟨E,0,none⟩,s.sf.n,S,s.sf.z⟩⟩):=
    ⟨m.on,m.rows,m.rapart,⟨v1,v2,v3,λi hi=>(Y i hi).2.2.2,av,v4⟩,m.hs,m.ms,m.msr,m.si,m.so,m.sf,m.aio,m.aif,m.aof,m.ari⟩
   have d6:Hid (af ⟨⟨some ⟨H,0,none⟩,s.on.n,D,λi=>⟨some ⟨L i,0,none⟩,(s.on.r i).n,Cr i,(s.on.r i).z⟩⟩,⟨va,s.os.n,vc,Ls⟩,l,m',⟨some ⟨t,0,none⟩,s.si.n,M,s.si.z⟩,⟨some ⟨y,0,none⟩,s.so.n,Q,s.so.z⟩,⟨some ⟨E,0,none⟩,s.sf.n,S,s.sf.z⟩⟩ s):=
    ⟨⟨rfl,λi hi=>⟨rfl,λj hj=>rfl⟩⟩,⟨rfl,λi hi=>⟨(Y i hi).1,(Y i hi).2.1,λj hj=>(Y i hi).2.2.1 j (by rw[<-(Y i hi).2.1];exact hj)⟩⟩,cd.o.1,cd.o.2,⟨rfl,λj hj=>rfl⟩,⟨rfl,λj hj=>rfl⟩,⟨rfl,λj hj=>rfl⟩⟩
   have xl:=o.lt;obtain⟨x0,x1,x2,x3,x4,x5,x6⟩:=dp o;have ch:=hid hz;obtain⟨zl,bt,bs,df,zc1,dg,zc2,dh,zc3,di,zc4,dj,zc5,dk,de⟩:=z7 hz;clear hz o T Y av m v1 v2 v3 v4 HL bm b0 b2 b3 b4 b5 b6;go_wp2_with fail;have KZ:=pc ch.o (.slice (some ⟨H,0,none⟩) s.on.n D) (.slice va s.os.n vc) (.slice l.a l.n l.c) (.slice m'.a m'.n m'.c) (.slice (some ⟨t,0,none⟩) s.si.n M) (.slice (some ⟨y,0,none⟩) s.so.n Q) (.slice (some ⟨E,0,none⟩) s.sf.n S);have cr:=lr (b:=w.heap.size+1) et ow (.slice (some ⟨H,0,none⟩) s.on.n D) (.slice va s.os.n vc) (.slice l.a l.n l.c) (.slice m'.a m'.n m'.c) (.slice (some ⟨t,0,none⟩) s.si.n M) (.slice (some ⟨y,0,none⟩) s.so.n Q) (.slice (some ⟨E,0,none⟩) s.sf.n S);have ap:=ah.set7 HR.o ch.o (.slice (some ⟨H,0,none⟩) s.on.n D) (.slice va s.os.n vc) (.slice l.a l.n l.c) (.slice m'.a m'.n m'.c) (.slice (some ⟨t,0,none⟩) s.si.n M) (.slice (some ⟨y,0,none⟩) s.so.n Q) (.slice (some ⟨E,0,none⟩) s.sf.n S);unfold set7 at KZ cr ap
   generalize (((((((wr.setCell { block:=w.heap.size+1,off:=0 } (Value.slice (some { block:=H,off:=0 }) s.on.n D)).setCell { block:=w.heap.size+1,off:=1 } (Value.slice va s.os.n vc)).setCell { block:=w.heap.size+1,off:=2 } (Value.slice l.a l.n l.c)).setCell { block:=w.heap.size+1,off:=3 } (Value.slice m'.a m'.n m'.c)).setCell { block:=w.heap.size+1,off:=4 } (Value.slice (some { block:=t,off:=0 }) s.si.n M)).setCell { block:=w.heap.size+1,off:=5 } (Value.slice (some { block:=y,off:=0 }) s.so.n Q)).setCell { block:=w.heap.size+1,off:=6 } (Value.slice (some { block:=E,off:=0 }) s.sf.n S))=WY at *
   obtain⟨ec,ed,ee,ef,eg,eh,ei⟩:=dp KZ;have HQ:=hid ap;refine Xzq (v:=(⟨⟨some ⟨H,0,none⟩,s.on.n,D,λi=>⟨some ⟨L i,0,none⟩,(s.on.r i).n,Cr i,(s.on.r i).z⟩⟩,⟨va,s.os.n,vc,Ls⟩,l,m',⟨some ⟨t,0,none⟩,s.si.n,M,s.si.z⟩,⟨some ⟨y,0,none⟩,s.so.n,Q,s.so.z⟩,⟨some ⟨E,0,none⟩,s.sf.n,S,s.sf.z⟩⟩:St).val) (by simp[results,results105,go_sem,St.val,ec,ed,ee,ef,eg,eh,ei]) rfl ?_;exact⟨_,rfl,d6.o,HQ.o,cr⟩
  obtain⟨v,Ls,o,T,Y,av,m⟩:=HL.o;obtain⟨bo,oo,cx,g9,y0,y1,cv⟩:=bm.os.ods k cw;have l3:=HF.o.lns k cw;have HG:=qa4 T Y av m;have HX:=hid o;have cg:=hid cv;have qk:(0:Int)<=(k:Int):=ow;rw[cx] at b1;have r0:=Qqq (o.k 1);have r1:=Qqq b1;have r2:=Qqq y0;have r3:=Qqq y1;clear o T Y av m hz cx y0 y1 cv b0 b2 b3 b4 b5 b6 bm HL;go_wp2_with fail;refine vw (λw'=>∃p:Regrown,w'=grow (redrawn wr p.d) p.os) [0,1,2,3,4,5,6,7,9,10,11,12,13,14] [8,15,16,17] [(true,18),(true,19),(true,20)] (Qqx (brf.drew)) ?_;simp only[jg]
  repeat(go_big_quiet_step(fail))
  refine Qqz ?_;clear r0 r1 r2 r3;refine⟨λj v g wk=>match j with|15=>DHs wr.heap.size 115 (s.os.z k).ls v g wk|16=>D16 wr.heap.size (s.os.z k) v g wk|17=>D17 wr.heap.size (s.os.z k) v g wk|_=>DE v g,
   Qjx ⟨λv g w w' _ h=>h,Qjx ⟨λv g w w' J h=>DHs.below h J,Qjx ⟨λv g w w' J h=>D16.below h J,Qjx ⟨λv g w w' J h=>D17.below h J,Qjq _⟩⟩⟩⟩,
   Qjx ⟨λv g w h=>Bm,Qjx ⟨λv g w h=>Bm,Qjx ⟨λv g w h=>Bm,Qjx ⟨λv g w h=>ags,Qjq _⟩⟩⟩⟩,
   Qjx ⟨?zt8,Qjx ⟨?zt15,Qjx ⟨?zt16,Qjx ⟨?zt17,Qjq _⟩⟩⟩⟩,?ztdone⟩
  case zt8 =>
   exact L5
  case zt15 =>
   intro V G wk K hS hd hA hK;have hX:=ae hS;have q:=hX.size;obtain⟨B,-,h3⟩:DE (V 8) (G 8):=hd 8 (Qjz ko) vq;refine ai _ rfl ?_;simp only[bw,h3] at hK ⊢;go_wp2_with(at_builtin;refine ri wk rfl (.tmp 44) (.tmp 50) 75 rfl 115 iL (.agg #[.int .i64 0,.int .i64 0,.int .i64 0,.int .i64 0]) 4 32 underlying75 hL ex ey ez rfl dc B rfl (s.os.z k).ls.a (s.os.z k).ls.n (s.os.z k).ls.c (ba (s.os.z k).ls.n (s.os.z k).ls.z) rfl Sy (Ot (cg.o.below hX)) (ot _ _) (Ua (cg.o.below hX)) uo ow ?_ ?_)
   .intro h0;exact absurd h0 ow
   intro h0 v' w1 ak X;have hB1:Bw wk w1:=(Below.refl _ wk).grown X nlr Ba;obtain⟨s',rfl,hc⟩:=Ir (A:=wr.heap.size) h0 ak ow;exact amv
  case zt16 =>
   intro V G wk K hS hd hA hK;obtain⟨s',-,eq,hc⟩:DHs wr.heap.size 115 (s.os.z k).ls (V 15) (G 15) wk:=hd 15 (Qjz ko) vq;have ao:Hid (uq wr.heap.size 115 (s.os.z k).ls wk s'):=hc;exact axy
  case zt17 =>
   intro V G wk K hS hd hA hK;have hX:=ae hS;obtain⟨s',-,er,hc⟩:D16 wr.heap.size (s.os.z k) (V 16) (G 16) wk:=hd 16 (Qjz ko) vq;have ao:Hid (uq wr.heap.size 115 (s.os.z k).ls wk s'):=hc;clear hc;refine ai _ rfl ?_;simp only[bw,er] at hK ⊢;go_wp2_with fail;have cp:=(Below.refl wk.heap.size wk).alloc nlr (.cells #[.int .i64 (s.os.z k).k,.slice s'.a s'.n s'.c] 124);exact ay4
  case ztdone =>
   intro V G' wk hS hD hA;obtain⟨BO,s',-,es,hf,bp,e1,e2,⟨o1,o2,o3,o4⟩,-⟩:D17 wr.heap.size (s.os.z k) (V 17) (G' 17) wk:=hD 17 vq;have hX:=ae hS;have T:=ky HG.o.1 hX;have cq:=J.trans (hX.mono J.size);have q0:=J.size;have q1:=hX.size;obtain⟨gB,ea,ha,kB⟩:=o4 ow;clear hS hD hA;have HE:=qa5 e1 e2 ea o1 o2;have ce:=hid kB;clear e1 e2 ea o1 o2 o3 o4 kB;simp only[bw,es];refine bu 18 rfl ?_;go_wp2_with(at_builtin;refine wpList_append_own _ rfl (.tmp 37) (.tmp 53) 32 rfl W0.heap.size 124 iO (.agg #[.int .i64 0,.slice none 0 0]) 2 32 underlying32 hO e5 e7 e8 rfl dc _ _ _ rfl T ⟨BO,0,none⟩ 1 1 [.int .i64 (s.os.z k).k,.slice s'.a s'.n s'.c] rfl rfl ?zc1 ?zc2 ?zc3 ?zc4 ?zc5 ?_)
   case zc1 =>
    intro j u hj
    match j,hj with
    | 0,hj=>simp at hj;subst hj;exact bp.k 0
    | 1,hj=>simp at hj;subst hj;exact bp.k 1
   case zc2=>intro u hu;simp at hu;rcases hu with rfl|rfl<;>rfl
   case zc3=>unfold maxLen;omega
   case zc4=>omega
   case zc5=>omega
   intro v2 w2 hown2 F b9;have bl:=T.lt;have dr:Bw W0 w2:=cq.grown F ow (λq hq=>(bl q hq).1);have aa:=px T F (HX.o.below hX) dc;have bq:=px T F ce.o dc;have bk:∀i,i<k->Qq w.heap.size s Ls i w2:=λi hi=>by
    obtain⟨x1,x2,x3,B,x4,x5,x6,x7,x8⟩:=HG.o.2.1 i hi;exact⟨x1,x2,x3,B,x4,x5,x6,x7,px T F (x8.below hX) dc⟩
   have bj:∀i,i<k->(Ls i).ls.a≠some ⟨gB,0,none⟩:=λi hi e=>by
    obtain⟨x1,x2,x3,B,x4,x5,x6,x7,x8⟩:=HG.o.2.1 i hi;rw[x4] at e;simp only[co] at e;have:=x8.lt;omega
   have bi:=ah.grownO (HG.o.2.2.2.below hX) rfl rfl T F;have fc:∃g c,v2 = .slice (some ⟨g,0,none⟩) (k+1) c:=an5;have xl:=aa.lt;have bt:=aa.frozen 1;have bs:=aa.k 1;have fb:=dr.setCell (p:=⟨U,1,none⟩) mX v2;have KB:=aa.set 1 v2;have HN:Hid (aqo w.heap.size W0.heap.size s ⟨⟨some ⟨H,0,none⟩,s.on.n,D,λi=>⟨some ⟨L i,0,none⟩,(s.on.r i).n,Cr i,(s.on.r i).z⟩⟩,⟨none,0,0,λ_=>⟨0,⟨none,0,0,λ_=>⟨0,0,0,0⟩⟩⟩⟩,l,m',⟨some ⟨t,0,none⟩,s.si.n,M,s.si.z⟩,⟨some ⟨y,0,none⟩,s.so.n,Q,s.so.z⟩,⟨some ⟨E,0,none⟩,s.sf.n,S,s.sf.z⟩⟩ U (k+1) (w2.setCell ⟨U,1,none⟩ v2)):=by
    refine⟨v2,λi=>if i=k then ⟨(s.os.z k).k,s'⟩ else Ls i,KB.congr (λj hj=>by match j,hj with|0,_=>rfl|1,_=>rfl|2,_=>rfl|3,_=>rfl|4,_=>rfl|5,_=>rfl|6,_=>rfl),?_,λi hi => ?_,λi j ay hj => ?_,bi.box aa 1 v2⟩
    .have e:ke (k+1) (λi=>if i=k then ⟨(s.os.z k).k,s'⟩ else Ls i)=ke k Ls++[.int .i64 (s.os.z k).k,.slice s'.a s'.n s'.c]:=by
      rw[ke,A5 (z':=Ls) λi hi=>aan,if_pos rfl]
      rfl
     rw[e];exact wm hown2 aa dc _ _
    .by_cases cs:i=k
     .subst cs;unfold Qq;dsimp only;rw[if_pos rfl];exact⟨rfl,HE.o.1,HE.o.2.1,gB,HE.o.2.2.1,ow,HE.o.2.2.2.1,HE.o.2.2.2.2,bq.other (a:=⟨U,1,none⟩) (Blk.ne bq aa dc) _⟩
     unfold Qq;dsimp only;rw[if_neg cs];obtain⟨x1,x2,x3,B,x4,x5,x6,x7,x8⟩:=bk i ow;exact⟨x1,x2,x3,B,x4,x5,x6,x7,x8.other (a:=⟨U,1,none⟩) (Blk.ne x8 aa dc) _⟩
    dsimp only;by_cases ct:j=k
    .subst ct;rw[if_neg ow,if_pos rfl,HE.o.2.2.1];exact bj i ay
    rw[if_neg ow,if_neg ct];exact HG.o.2.2.1 i j ay ow
   clear bq bk bj bi KB hown2 aa T F b9 bl bp hX HG HX cq ce HE;obtain⟨g2,c2,rfl⟩:=fc;refine o6 ⟨fw.yes,?_⟩;refine bu 19 rfl ?_;go_wp2_with fail;refine⟨fw.yes,?_⟩;refine bu 20 rfl ?_;go_wp2_with fail;refine⟨fw.yes,?_⟩;refine NoPanic.normal ?_;go_wp2_with fail;go_roundw
   case rel=>exact⟨k+1,ow,vo,HN,fb⟩
   case measure=>simp[intOf];omega
def tm(A:Nat)(e:TypeId)(w w':World):Prop:=∃row,w.grownBy w' row/\∀k,row=some k->A<=k/\∃cur,w.heap[k]?=some (.cells cur e (0,0))
theorem tm.blk(h:tm A e w w')(b:Blk w q t m f)(d:t≠e):Blk w' q t m f:=by
 obtain⟨row,g,j⟩:=h;refine b.grown g λi => ?_;obtain⟨_,c2,a⟩:=j q i.symm;obtain⟨c3,c,_⟩:=b;rw[c] at a;cases a;exact d rfl
theorem tm.low(h:tm A e w w')(b:Blk w q t m f)(g:q<A):Blk w' q t m f:=by
 obtain⟨row,c,d⟩:=h;exact b.grown c λa=>by have:=(d q a.symm).1;omega
theorem tm.below{a:Nat}(h:tm A e w w')(b:Below a X w)(hA:a<=A)(hs:a<=w.heap.size):Below a X w':=by
 obtain⟨row,c,f⟩:=h;exact b.grown c hs λk d=>by have:=(f k d).1;omega
theorem gp.grew{B:Nat}{j:World}{a:Option Addr}(h:gp A w t n a c)(f:tm B e w j)(i:t≠e):gp A j t n a c:=by
 obtain⟨row,f,l⟩:=f;refine h.same λg cur d=>f.block g (Qkq d).1 λk => ?_;obtain⟨_,c2,b⟩:=l g k.symm;rw[d] at b;cases b;exact i rfl
theorem ki.grew{B:Nat}{b:World}{r:Rw}(h:ki A w r)(k:tm B e w b)(a:3≠e):ki A b r:=by
 obtain⟨g,i,c,d,f,j⟩:=h;exact⟨g,i,c,d,f,k.blk j a⟩
theorem ct.grew{B:Nat}{b:World}{s:Hs}(h:ct A t w s)(l:tm B e w b)(a:t≠e):ct A t b s:=by
 obtain⟨c,d,f,i⟩:=h;refine⟨c,d,f,λm => ?_⟩;obtain⟨g,j,hA,k⟩:=i m;exact⟨g,j,hA,l.blk k a⟩
theorem ajl{a:Nat}{size:Nat}(h:w.ownsRow A e size v n xs)(hA:a<=A):w.ownsRow a e size v n xs :=
 ⟨h.1,h.2.imp_right λ⟨g,cap,cur,h1,h2,h3⟩=>⟨g,cap,cur,h1,Qzx hA h2,h3⟩⟩
theorem Ug{size:Nat}{cur:Array Value}(hA:A<=g)(i:w.heap[g]?=some (.cells cur e (0,0)))(l:cur.size=c*size)(k:n<=c)(b:c<=maxLen)(q:xs.length=n*size)
  (o:0<n->Blk w g e (n*size) (λj=>xs.getD j default)):w.ownsRow A e size (.slice (some ⟨g,0,none⟩) n c) n xs:=by
 refine⟨q,Or.inr ⟨g,c,cur,rfl,hA,i,k,b,l,?_⟩⟩
 apply List.ext_getElem?
 intro j;rw[List.getElem?_take];by_cases a:j<n*size
 .rw[if_pos a];have r:0<n:=by
   rcases Nat.eq_zero_or_pos n with h|h
   .subst h;simp at a
   exact h
  obtain⟨m,hc,_,p⟩:=o r;rw[i] at hc;cases hc;have d:=p j a;have f:j<xs.length:=ow;rw[List.getElem?_eq_getElem f];simp only[List.getD,List.getElem?_eq_getElem f,Option.getD_some] at d
  simpa using d
 rw[if_neg a,List.getElem?_eq_none ow]
theorem vv{P:Program}(w:World){r:Array Oper}{rest:List Oper}{o:Oper}{a:Act}
  (S:o.guard=none) (s x:Operand) (t:TypeId) (q:o.op=Op.call { callee:=Callee.builtin Builtin.append,args:=#[s,x],argTypes:=#[t,t] })
  (A:Nat) (e:TypeId) (i:TypeInfo) (z:Value) (size bytes:Nat) (F:P.underlying t=some (.slice e)) (G:P.info? e=some i) (H:i.zero=some z) (J:i.size=size) (K:i.bytes=bytes) (L:z.cells.size=size) (M:0<size)
  (f:Option Addr) (n c:Nat) (xs:List Value) (hs:a.eval s = .slice f n c) (l:gp A w e size f c) (T:n<=c) (B:c<=maxLen) (hlo:xs.length=n*size) (y:0<n->∃g,f=some ⟨g,0,none⟩/\A<=g/\Blk w g e (n*size) (λj=>xs.getD j default))
  (d:Addr) (m v:Nat) (news:List Value) (hx:a.eval x = .slice (some d) m v) (U:news.length=m*size) (hc:∀j u,news[j]?=some u->w.cell? (d.add j)=some u) (p:∀u∈news,u.oneCell'=true)
  (hm:0<m) (b1:n+m<=maxLen) (b2:(n+m)*bytes<=140737488355328) (hA:A<=w.heap.size)
  (hK:∀v' w',w'.ownsRow A e size v' (n+m) (xs++news)->tm A e w w'->wpList P r Q rest (a.put o.dst v') w') :
  wpList P r Q (o :: rest) a w:=by
 rcases l with X|⟨g,cur,Y,hA',hgc,W⟩
 .subst X;have V:n=0:=ow;subst V;obtain rfl:xs=[]:=List.eq_nil_of_length_eq_zero aa7;refine wpList_append_grows w S s x t q e i z size bytes F G H J K L M f 0 0 [] hs (λ_=>⟨rfl,rfl⟩) vq (λb _ j u hj=>Sz) d m v news hx U hc p ow b1 b2 λv' w' r1 r2 => ?_;exact ao7
 subst Y;have D:=Ug (w:=w) (e:=e) hA' hgc W T B hlo (λh=>by
  obtain⟨g',E,_,hb⟩:=y h;simp only[co] at E;subst E;exact hb)
 refine wpList_append_own w S s x t q A e i z size bytes F G H J K L M _ n xs hs D d m v news hx U hc p b1 b2 hA λv' w' r1 r2 _ => ?_;exact ams
def nu(s:Os)(x:Od)(i:Nat):Od:=if i=s.n then x else s.z i
theorem afe(s:Os)(x:Od):ke s.n s.z++ti x=ke (s.n+1) (nu s x):=by
 rw[ke,A5 (z':=nu s x) λi hi=>by unfold nu;rw[if_neg ow]]
 congr 1
 unfold nu;rw[if_pos rfl]
theorem kj.more{s:Os}{x:Od}(h:kj A w s)(f:w'.ownsRow A 124 2 v (s.n+1) (ke s.n s.z++ti x))(l:tm A 124 w w')
  {B:Nat} (H:x.ls.a=some ⟨B,0,none⟩) (G:A<=B) (L:x.ls.n<=x.ls.c) (hc:x.ls.c<=maxLen) (K:Blk w B 115 (x.ls.n*4) (λj=>(ba x.ls.n x.ls.z).getD j default)) (k:∀i,i<s.n->(s.z i).ls.a≠x.ls.a) :
  ∃va vc,v = .slice va (s.n+1) vc/\kj A w' ⟨va,s.n+1,vc,nu s x⟩:=by
 have M:v ≠ .slice none 0 0:=by
  rintro rfl;rcases f.2 with⟨_,U⟩|⟨T,t,u,h,_⟩
  .omega
  cases h
 have e:=f;rw[afe] at e;obtain⟨g,c,rfl,y,D,E,F⟩:=Blk.ofOwns e M;refine⟨some ⟨g,0,none⟩,c,rfl,y,D,λ_=>⟨g,rfl,E,F⟩,λi hi => ?_,λi j m J => ?_,gp.ofOwns f nlr⟩
 .show ∃B,(nu s x i).ls.a=_/\A<=B/\(nu s x i).ls.n<=(nu s x i).ls.c/\(nu s x i).ls.c<=maxLen/\Blk w' B 115 ((nu s x i).ls.n*4) (λj=>(ba (nu s x i).ls.n (nu s x i).ls.z).getD j default);have Q:i<s.n+1:=hi;unfold nu;by_cases b:i=s.n
  .rw[if_pos b];exact⟨B,H,G,L,hc,l.blk K dc⟩
  rw[if_neg b];obtain⟨B',a1,o,p,q,r⟩:=h.lines i ow;exact⟨B',a1,o,p,q,l.blk r dc⟩
 have S:j<s.n+1:=J;show(nu s x i).ls.a≠(nu s x j).ls.a;unfold nu;rw[if_neg ow];by_cases d:j=s.n
 .rw[if_pos d];exact k i ow
 rw[if_neg d];exact h.apart i j m ow
structure Bt(R:Nat)(w w':World):Prop where
 os:w'.os=w.os
 tape:w'.tape=w.tape
 output:w'.output=w.output
 size:w.heap.size<=w'.heap.size
 block:∀q,q<w.heap.size->q≠R->w'.heap[q]?=w.heap[q]?
theorem Bt.refl(R:Nat)(w:World):Bt R w w:=⟨rfl,rfl,rfl,Nat.le_refl _,λ_ _ _=>rfl⟩
theorem Bt.trans{b c:World}(h:Bt R a b)(k:Bt R b c):Bt R a c :=
 ⟨k.os.trans h.os,k.tape.trans h.tape,k.output.trans h.output,Qzx h.size k.size,λq e d=>(k.block q (Xzx e h.size) d).trans (h.block q e d)⟩
theorem Bt.drew(h:Bt R a w):Bt R a w.drew:=⟨h.os,h.tape,h.output,h.size,h.block⟩
theorem Bt.of{B:Nat}(h:Below B w w')(a:w.heap.size<=B):Bt R w w':=⟨h.os,h.tape,h.output,h.size,λq b _=>h.block q ow⟩
theorem Bt.alloc(h:Bt R a w)(o:Obj):Bt R a (w.alloc o):=h.trans (Bt.of (brf.alloc nlr o) nlr)
theorem Bt.set(h:Bt R a w){p:Addr}(b:p.block=R\/a.heap.size<=p.block)(u:Value):Bt R a (w.setCell p u):=
 ⟨h.os,h.tape,h.output,by simpa[World.setCell] using h.size,λq d c=>(Below.heap_setCell w p u q (by rcases b with b|b<;>omega)).trans (h.block q d c)⟩
theorem Bt.blk(h:Bt R w w')(a:Blk w q e n f)(b:q≠R):Blk w' q e n f:=a.same (h.block q a.lt b)
theorem Bt.below{B:Nat}(h:Bt R w w')(a:B<=R)(hs:B<=w.heap.size):Below B w w':=⟨h.os,h.tape,h.output,h.size,λk b=>h.block k ow ow⟩
theorem Bt.below2(h:Bt R w w')(a:w.heap.size<=R):Bw w w':=h.below a nlr
theorem Bt.grew(h:Bt R a w)(b:tm A e w w')(hA:a.heap.size<=A):Bt R a w':=by
 obtain⟨row,b,f⟩:=b;exact⟨b.os.trans h.os,b.tape.trans h.tape,b.output.trans h.output,Qzx h.size b.size,λq c d=>(b.block q (Xzx c h.size) (λe=>by have:=(f q e.symm).1;omega)).trans (h.block q c d)⟩
structure Eqv(w w':World):Prop where
 os:w'.os=w.os
 tape:w'.tape=w.tape
 output:w'.output=w.output
 heap:w'.heap=w.heap
theorem Eqv.refl(w:World):Eqv w w:=⟨rfl,rfl,rfl,rfl⟩
theorem Eqv.trans{b c:World}(h:Eqv a b)(k:Eqv b c):Eqv a c:=⟨k.os.trans h.os,k.tape.trans h.tape,k.output.trans h.output,k.heap.trans h.heap⟩
theorem Eqv.drew(w:World):Eqv w w.drew:=⟨rfl,rfl,rfl,rfl⟩
theorem Eqv.drewN(w:World)(n:Nat):Eqv w (w.drewN n):=⟨rfl,rfl,rfl,rfl⟩
theorem Eqv.set(h:Eqv w w')(p:Addr)(u:Value):Eqv (w.setCell p u) (w'.setCell p u):=by
 refine⟨h.os,h.tape,h.output,?_⟩;unfold World.setCell;rw[h.heap]
theorem Eqv.below(h:Eqv w w')(B:Nat):Below B w w':=⟨h.os,h.tape,h.output,akw,λk _=>by rw[h.heap]⟩
theorem Eqv.bt(h:Eqv w w')(R:Nat):Bt R w w':=⟨h.os,h.tape,h.output,akw,λk _ _=>by rw[h.heap]⟩
theorem Eqv.blk(h:Eqv w w')(a:Blk w q e n f):Blk w' q e n f:=a.same (by rw[h.heap])
def Shp(w:World)(q:Nat)(e:TypeId)(n:Nat):Prop:=∃f,Blk w q e n f
theorem Shp.set(h:Shp w q e n)(b j:Nat)(u:Value):Shp (w.setCell ⟨b,j,none⟩ u) q e n:=by
 obtain⟨f,h⟩:=h;by_cases c:q=b
 .subst c;exact⟨_,h.set j u⟩
 exact⟨_,h.other c u⟩
structure Gnd(w:World):Prop where
 low:8<=w.heap.size
 max:∃m,w.cell? ⟨0,0,none⟩=some (.int .i64 m)
 tab:∃t f,w.heap[1]?=some (.cells (Lib.pow10Tab.map λz=>Value.int .u64 z).toArray t f)
 syn:∃ev,w.cell? ⟨2,0,none⟩=some ev/\(ev = .nilIface\/∃te pe,ev = .iface te pe)
 rng:∃ev,w.cell? ⟨3,0,none⟩=some ev/\(ev = .nilIface\/∃te pe,ev = .iface te pe)
theorem Gnd.keep(h:Gnd w)(hs:w.heap.size<=w'.heap.size)(a:∀q,q<8->w'.heap[q]?=w.heap[q]?):Gnd w':=by
 obtain⟨b,⟨m,c⟩,⟨t,f,d⟩,⟨e4,e,i⟩,⟨e5,g,j⟩⟩:=h;exact⟨Qzx b hs,⟨m,(World.cell?_of_block (a 0 dc)).trans c⟩,⟨t,f,(a 1 dc).trans d⟩,⟨e4,(World.cell?_of_block (a 2 dc)).trans e,i⟩,⟨e5,(World.cell?_of_block (a 3 dc)).trans g,j⟩⟩
theorem Gnd.below{B:Nat}(h:Gnd w)(a:Below B w w')(h8:8<=B):Gnd w':=h.keep a.size λq b=>a.block q ow
theorem Gnd.belows(h:Gnd w)(a:Bw w w'):Gnd w':=h.below a h.low
theorem Gnd.bt(h:Gnd w)(a:Bt R w w')(h8:8<=R):Gnd w':=h.keep a.size λq b=>a.block q (by have:=h.low;omega) ow
theorem yt(l:List UInt8):(⟨l.toArray⟩:ByteArray).size=l.length:=by simp[ByteArray.size]
theorem ayn(w:World)(n B:Nat):Below B w (w.drewN n):=(Eqv.drewN w n).below B
theorem ac5(w:World)(e:TypeId)(s:ByteArray):Bw w (Lib.bytesWorld w e s):=by
 unfold Lib.bytesWorld;have h:=((Below.refl w.heap.size w).drew).alloc nlr (.cells (Lib.bytesCells w e s) e);exact⟨h.os,h.tape,h.output,by simp[World.freeze],λk b=>by
  have a:¬w.heap.size=k:=ow;rw[<-h.block k b];simp[World.freeze,Array.getElem?_modify,a]⟩
theorem Pw(n:Int)(a : -9223372036854775808<=n)(b:n<=9223372036854775807)(w:World)(g:Gnd w):
  Calls prog 27 #[.int .i64 n] w λe w'=>e = .returned (.string ⟨(Lib.itoa n).toArray⟩)/\Bw w w':=by
 obtain⟨t,f,d⟩:=g.tab;refine(Any.strconv_Itoa aet n a b w ?_).mono ?_
 .unfold Lib.TabIs World.var?;rw[show prog.globalNamed _=some 1 by kernel_rfl];simp only[Option.bind_some,d]
 rintro e w' ⟨c,k,os,rfl⟩;refine⟨c,?_⟩;have:=Qxx (w.drewN k) 0 os;exact⟨this.os,this.tape,this.output,this.size,this.block⟩
theorem ap9(l:List UInt8)(j:l.length<=4096)(w:World)(g:Gnd w):
  Calls prog 52 #[.string ⟨l.toArray⟩] w λe w'=>∃er,e = .returned (.tuple #[.int .i64 (uz l),er])/\Bw w w':=by
 have hs:=yt l;unfold uz;rcases h:Lib.atoiAll l with v|_|_
 .refine(Any.strconv_Atoi_ok J6 ⟨l.toArray⟩ ow v Hb w).mono ?_;rintro e w' ⟨a,i⟩;refine⟨_,a,?_⟩;rcases i with rfl|⟨t,rfl⟩
  .exact Below.refl _ _
  exact ac5 w _ t
 .obtain⟨b,c,d⟩:=g.syn;refine(Any.strconv_Atoi_syntax J6 ⟨l.toArray⟩ ow Hb b w c d).mono ?_;rintro e w' ⟨N,a,-,-,f⟩;exact⟨_,a,f⟩
 obtain⟨b,c,d⟩:=g.rng;refine(Any.strconv_Atoi_range J6 ⟨l.toArray⟩ ow Hb b w c d).mono ?_;rintro e w' ⟨N,a,-,-,f⟩;exact⟨_,a,f⟩
theorem aqv(l:List UInt8): -9223372036854775808<=uz l/\uz l<=9223372036854775807:=by
 unfold uz;rcases h:Lib.atoiAll l with v|_|_
 .exact Lib.atoiAll_bounds h
 .show(-9223372036854775808:Int)<=0/\(0:Int)<=9223372036854775807;exact⟨dc,dc⟩
 show -9223372036854775808<=Lib.atoiSat l/\Lib.atoiSat l<=9223372036854775807;unfold Lib.atoiSat;by_cases c:l.head?.map (·.toNat)=some 45
 .rw[if_pos c];exact⟨dc,dc⟩
 rw[if_neg c];exact⟨dc,dc⟩
theorem aqc(l:List UInt8)(w:World):
  Calls prog 8 #[.string ⟨l.toArray⟩,.string ⟨#[10]⟩] w λe w'=>e = .returned (.int .i64 (l.count 10:Nat))/\w'=w :=
 Any.strings_Count_one ahv ⟨l.toArray⟩ 10 w
theorem Ml(l:List UInt8)(a:l.length<=4096)(w:World):
  Calls prog 9 #[.string ⟨l.toArray⟩,.string ⟨#[10]⟩] w λe w'=>e = .returned (.bool (l.getLast?==some 10))/\w'=w:=by
 refine(Any.strings_HasSuffix ahu ⟨l.toArray⟩ ⟨#[10]⟩ w aaw).mono ?_;rintro e w' ⟨rfl,rfl⟩;refine⟨?_,rfl⟩
 congr 2
 show [10].isSuffixOf l=_;rw[Bool.eq_iff_iff,List.isSuffixOf_iff_suffix,beq_iff_eq];constructor
 .rintro⟨t,rfl⟩;simp
 intro h;obtain⟨t,rfl⟩:=List.getLast?_eq_some_iff.1 h;exact⟨t,rfl⟩
theorem aw0(a b:List UInt8)(h:(10:UInt8) ∉ a)(f:(a++10 :: b).length<=4096)(w:World)(g:Gnd w):
  Calls prog 10 #[.string ⟨(a++10 :: b).toArray⟩,.string ⟨#[10]⟩] w λe w'=>e = .returned (.tuple #[.string ⟨a.toArray⟩,.string ⟨b.toArray⟩,.bool true])/\Bw w w':=by
 obtain⟨m,d⟩:=g.max;refine(Any.strings_Cut ahw ⟨(a++10 :: b).toArray⟩ ⟨#[10]⟩ m w aaw d).mono ?_;rintro e w' ⟨rfl,n,rfl⟩;refine⟨?_,ayn w n _⟩;have hc:=av5 (c:=10) (a:=a) (b:=b) h;simp only[hc]
def qx(w:World)(a:Option Addr)(l:List (List UInt8)):Prop:=∀i x,l[i]?=some x->∃b o,a=some ⟨b,o,none⟩/\b<w.heap.size/\w.cell? ⟨b,o+i,none⟩=some (.string ⟨x.toArray⟩)
theorem qx.below{a:Option Addr}{l:List (List UInt8)}(h:qx w a l)(d:Bw w w'):qx w' a l:=λi x hi=>by
 obtain⟨b,o,e,c,f⟩:=h i x hi;exact⟨b,o,e,Xzx c d.size,(d.cell (p:=⟨b,o+i,none⟩) c).trans f⟩
theorem ahr(l:List UInt8)(n:l.length<=4096)(w:World)(g:Gnd w):
  Calls prog 28 #[.string ⟨l.toArray⟩,.string ⟨#[32]⟩] w λe w'=>e = .returned (.slice (some ⟨w.heap.size,0,none⟩) (fc 32 [] l).length (fc 32 [] l).length)/\qx w' (some ⟨w.heap.size,0,none⟩) (fc 32 [] l)/\Bw w w':=by
 obtain⟨m,d⟩:=g.max;refine(Any.strings_Split ahx ko ⟨l.toArray⟩ ⟨#[32]⟩ m w aaw d dc).mono ?_;rintro e w' ⟨rfl,rfl⟩;have b:=adt ⟨l.toArray⟩ 32;have hc:=Qy ⟨l.toArray⟩ 32;rw[hc] at b ⊢;have c:(Lib.splitB ⟨#[32]⟩ 0 (l.count 32) ⟨l.toArray⟩).map (·.data.toList)=fc 32 [] l:=b;have a:(fc 32 [] l).length=l.count 32+1:=Ef;rw[a];refine⟨rfl,λi x hi=>⟨w.heap.size,0,rfl,vq,?_⟩,brf.alloc nlr _⟩;rw[<-c,List.getElem?_map] at hi;obtain⟨y,j,rfl⟩:=Option.map_eq_some_iff.1 hi;have f:=heap_alloc_new w (.cells ((Lib.splitB ⟨#[32]⟩ 0 (l.count 32) ⟨l.toArray⟩).map Value.string).toArray 9);have k:(⟨y.data.toList.toArray⟩:ByteArray)=y:=vq;rw[k];simp only[World.cell?];show(match (w.alloc (.cells ((Lib.splitB ⟨#[32]⟩ 0 (l.count 32) ⟨l.toArray⟩).map Value.string).toArray 9)).heap[w.heap.size]? with|some (.cells cs _ _)=>cs[0+i]?|_=>none)=_;rw[f];simp[j]
theorem aql(a:Option Addr)(c:Nat)(d:List (List UInt8))(w:World)(h:qx w a d)(hc:d.length<=c)(p:d.length<=100000)(l:(Lib.join d [32]).length<=100000000):
  Calls prog 68 #[.slice a d.length c,.string ⟨#[32]⟩] w λe w'=>e = .returned (.string ⟨(Lib.join d [32]).toArray⟩)/\Bw w w':=by
 cases d with
 | nil =>
  refine(Any.strings_Join_none Uy uy a c ⟨#[32]⟩ w).mono ?_;rintro e w' ⟨rfl,rfl⟩;exact⟨rfl,Below.refl _ _⟩
 | cons x r =>
  obtain⟨b,o,rfl,k,-⟩:=h 0 x rfl;have g:((x :: r).map λy=>(⟨y.toArray⟩:ByteArray)).map (·.data.toList)=x :: r:=by
   rw[List.map_map]
   conv=>rhs;rw[<-List.map_id (x :: r)]
   rfl
  have:=Any.strings_Join Uy uy b o c ((x :: r).map λy=>⟨y.toArray⟩) ⟨#[32]⟩ w (λj y f => ?_) k (by rw[List.length_map];omega) (by rw[List.length_map];exact hc) (by rw[g];exact Qzx l dc)
  .rw[g,List.length_map] at this;exact this
  rw[List.getElem?_map] at f;obtain⟨z,m,rfl⟩:=Option.map_eq_some_iff.1 f;obtain⟨n,q,e,-,i⟩:=h j z m;cases e;exact i
end Go.Proofs.YtjgckphgagdpaaaGreatDoor

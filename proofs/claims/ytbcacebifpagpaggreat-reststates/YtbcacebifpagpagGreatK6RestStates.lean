/- Texts that were built one behind the other, joined; what RestStates does not reach is left out. -/
import Derived.Test.YtbcacebifpagpagGreatK5RestStates
import Derived.Laws.IdiomStrings
import Derived.Lib.QuietBelow
set_option maxHeartbeats 8000000
set_option maxRecDepth 100000
namespace Go.Proofs.YtbcacebifpagpagGreat
open _root_.Go.Proofs.Tryz
open Go.RowKit Go.Shelf Go.Sort
set_option linter.unusedVariables false
theorem Pt(x:Hd)(w:World):
  Calls prog 150 #[x.val] w λe a=>e = .returned (.bool (ru x))/\Below w.heap.size w a:=by
 unfold Hd.val ru;go_enter func150,ntmps150;go_wp2_with fail;go_ret;exact⟨rfl,brf.alloc nlr _⟩
def mq(x:St)(q:Int->Int->Int):St:=⟨x.on,Et x.os q,x.hs,x.ms,x.si,x.so,x.sf⟩
theorem Uv(x:Hd):tp x 0=x:=by unfold tp;rw[Int.add_zero]
theorem Ty(x:St):mq x (λ_ _=>0)=x:=by
 unfold mq Et;simp only[Uv]
theorem Yn(x:St)(q:Int->Int->Int)(o l:Nat)(d:Int):setLine (mq x q) o l 3 (((x.os.z o).ls.z l).n+q o l+d)=mq x (qt q o l (q o l+d)):=by
 unfold setLine mq Cl Et
 congr 2
 funext i
 by_cases hi:i=o
 .rw[if_pos hi];subst hi
  congr 2
  unfold yv
  congr 1
  funext j
  dsimp only;by_cases a:j=l
  .rw[if_pos a,a];unfold Gn tp qt;rw[if_neg (by decide),if_neg (by decide),if_neg (by decide),if_pos ⟨rfl,rfl⟩,Int.add_assoc]
  rw[if_neg a];unfold qt;rw[if_neg (λe=>a (by omega))]
 rw[if_neg hi];dsimp only
 congr 2
 funext j
 unfold qt;rw[if_neg (λe=>hi (by omega))]
structure vl(x:St)(b g:Nat)(n:Int)(i:Nat)(m:Int)(z:Nat->Hd)(q:Int->Int->Int):Prop where
 rest:lf (cd x b g) i (max 0 m) z=lf (cd x b g) x.hs.n (max 0 n) x.hs.z
 sum:∀o l,q o l+ky (cd x b g) (max 0 m) (cw z i) o l=ky (cd x b g) (max 0 n) (l6 x) o l
 q0:∀o l,0<=q o l
 pos:∀j,j<x.hs.n->0<=(z j).n/\(z j).n<=200
 key:∀j,j<x.hs.n->(z j).o=(x.hs.z j).o/\(z j).l=(x.hs.z j).l/\(z j).b=(x.hs.z j).b
 le:m<=max 0 n/\(m=n\/0<=m)
theorem vl.revP{x:St}{b g:Nat}{n m:Int}{i:Nat}{z:Nat->Hd}{q:Int->Int->Int}(h:vl x b g n i m z q)(hi:i<=x.hs.n):vd (cw z i):=λy a=>by
 obtain⟨j,c,e⟩:=v9 a;rw[<-e];exact(h.pos j (by omega)).1
theorem vl.qle{x:St}{b g:Nat}{n m:Int}{i:Nat}{z:Nat->Hd}{q:Int->Int->Int}(h:vl x b g n i m z q)(hi:i<=x.hs.n)(o l:Int):q o l<=ky (cd x b g) (max 0 n) (l6 x) o l:=by
 have a:=h.sum o l;have c:=I8 (cd x b g) o l (m:=max 0 m) (h.revP hi) (by omega);omega
theorem vl.miss{x:St}{b g:Nat}{n m:Int}{i:Nat}{z:Nat->Hd}{q:Int->Int->Int}(h:vl x b g n (i+1) m z q)(a:¬((z i).b=b/\jo x (z i)=g)):vl x b g n i m z q:=by
 have c:¬cd x b g (z i)=true:=λe=>a (vu.1 e);refine⟨?_,λo l => ?_,h.q0,h.pos,h.key,h.le⟩
 .rw[<-h.rest];exact(if_neg c).symm
 rw[<-h.sum o l]
 congr 1
 exact(if_neg c).symm
theorem vl.hit{x:St}{b g:Nat}{n m:Int}{i:Nat}{z:Nat->Hd}{q:Int->Int->Int}(h:vl x b g n (i+1) m z q)(hi:i<x.hs.n)(B:0<m)(u:(z i).b=b)(t:jo x (z i)=g){o l:Nat}(A:(z i).o=o)(v:(z i).l=l):vl x b g n i (m-min m (z i).n) (gy z i (min m (z i).n)) (qt q o l (q o l+min m (z i).n)):=by
 have c:cd x b g (z i)=true:=vu.2 ⟨u,t⟩;have p:=h.pos i hi;have e0:max 0 m=m:=by omega
 have f:max 0 (m-min m (z i).n)=m-min m (z i).n:=by omega
 have le:=h.le;refine⟨?_,λa k => ?_,λa k => ?_,λj d => ?_,λj d => ?_,by omega⟩
 .rw[<-h.rest,e0,f];exact(if_pos c).symm
 .have s:=h.sum a k;have y:ky (cd x b g) m (cw z (i+1)) a k=(if (z i).o=a/\(z i).l=k then min m (z i).n else 0)+ky (cd x b g) (m-min m (z i).n) (cw z i) a k:=if_pos c;rw[e0,y,A,v] at s;rw[f,ot (z:=gy z i (min m (z i).n)) (z':=z) λj d=>if_neg (by omega)];unfold qt;by_cases e:a=o/\k=l
  .rw[if_pos ⟨e.1.symm,e.2.symm⟩] at s;rw[if_pos e];rw[e.1,e.2] at s ⊢;omega
  rw[if_neg (λr=>e ⟨r.1.symm,r.2.symm⟩)] at s;rw[if_neg e];omega
 .have:=h.q0 a k;have:=h.q0 o l;unfold qt
  split<;>omega
 .unfold gy;have w:=h.pos j d;by_cases e:j=i
  .rw[if_pos e,e];show 0<=(z i).n-min m (z i).n/\(z i).n-min m (z i).n<=200;omega
  rw[if_neg e];exact w
 unfold gy;have w:=h.key j d;by_cases e:j=i
 .rw[if_pos e];exact w
 rw[if_neg e];exact w
theorem vl.done{x:St}{b g:Nat}{n m:Int}{i:Nat}{z:Nat->Hd}{q:Int->Int->Int}(h:vl x b g n i m z q)(hi:i<=x.hs.n)(hd:i=0\/m<=0):z=lf (cd x b g) x.hs.n (max 0 n) x.hs.z/\q=ky (cd x b g) (max 0 n) (l6 x):=by
 rcases hd with rfl|hd
 .refine⟨h.rest,?_⟩
  funext o l
  rw[<-h.sum o l];exact(Int.add_zero _).symm
 have e:max 0 m=0:=by omega
 have r:=h.rest;rw[e,Hv _ _ _ λj a=>(h.pos j (by omega)).1] at r;refine⟨r,?_⟩
 funext o l
 rw[<-h.sum o l,e,Bm _ _ _ (h.revP hi),Int.add_zero]
theorem vv{A f r:Nat}{W0 d:World}{x:St}{b g:Nat}{q L:Int->Int->Int}{z:Nat->Hd}{k o l G m B:Nat}(h:gu A f r W0 (withHolds (mq x q) ⟨x.hs.a,x.hs.n,x.hs.c,z⟩) b g L d)(p:k<x.hs.n)(ho:(z k).o=(o:Int))(V:(z k).l=(l:Int))(on:o<x.os.n)(ln:l<(x.os.z o).ls.n)(y:x.hs.a=some ⟨G,0,none⟩)(H:x.os.a=some ⟨m,0,none⟩)(F:(x.os.z o).ls.a=some ⟨B,0,none⟩):
  f<d.heap.size/\d.cell? ⟨f,1,none⟩=some (.slice (some ⟨m,0,none⟩) x.os.n x.os.c)/\d.cell? ⟨f,2,none⟩=some (.slice (some ⟨G,0,none⟩) x.hs.n x.hs.c)/\d.cell? ⟨f,7,none⟩=some (.int .i64 (b:Int))/\d.cell? ⟨f,8,none⟩=some (.int .i64 (g:Int))/\d.cell? ⟨f,9,none⟩=some (.map (some r)) /\
  G<d.heap.size/\d.cell? ⟨G,k*4,none⟩=some (.int .i64 (o:Int))/\d.cell? ⟨G,k*4+1,none⟩=some (.int .i64 (l:Int))/\d.cell? ⟨G,k*4+2,none⟩=some (.int .i64 (z k).b)/\d.cell? ⟨G,k*4+3,none⟩=some (.int .i64 (z k).n) /\
  m<d.heap.size/\d.cell? ⟨m,o*2+1,none⟩=some (.slice (some ⟨B,0,none⟩) (x.os.z o).ls.n (x.os.z o).ls.c)/\B<d.heap.size/\d.cell? ⟨B,l*4,none⟩=some (.int .i64 ((x.os.z o).ls.z l).o)/\d.cell? ⟨B,l*4+3,none⟩=some (.int .i64 (((x.os.z o).ls.z l).n+q o l))/\(∀j,d.frozen? ⟨G,j,none⟩=false)/\(∀j,d.frozen? ⟨B,j,none⟩=false)/\¬G=B:=by
 obtain⟨u,-,Q,T,-,-,-,-,U,u8,Y⟩:=h.boxed;obtain⟨D,J,ac,i⟩:=h.own.hs.2.2.2 (show 0<x.hs.n by omega);obtain⟨v,B',c1,c2,c3,c4,c5,c6,X,c8,c9,K,W,d1,d2,S⟩:=h.own.lineCell (o:=o) (l:=l) on ln;have M:G=D:=by have e:x.hs.a=some ⟨D,0,none⟩:=J;rw[y] at e;simpa using e
 have P:m=v:=by have e:x.os.a=some ⟨v,0,none⟩:=c1;rw[H] at e;simpa using e
 have w:B=B':=by have e:(x.os.z o).ls.a=some ⟨B',0,none⟩:=c5;rw[F] at e;simpa using e
 subst M P w;have s:d.cell? ⟨f,1,none⟩=some (.slice x.os.a x.os.n x.os.c):=Q;have t:d.cell? ⟨f,2,none⟩=some (.slice x.hs.a x.hs.n x.hs.c):=T;rw[H] at s;rw[y] at t;have E:=h.own.os.lines o on;obtain⟨B',b1,b2,b3,b4,b5⟩:=E;have w:B=B':=by have e:(x.os.z o).ls.a=some ⟨B',0,none⟩:=b1;rw[F] at e;simpa using e
 subst w;exact⟨u,s,t,U,u8,Y,i.lt,(i.cell (j:=k*4) (by show k*4<x.hs.n*4;omega)).trans (congrArg some ((qc (z:=z) (c:=0) p (by decide)).trans (by rw[<-ho];rfl))),(i.cell (j:=k*4+1) (by show _<x.hs.n*4;omega)).trans (congrArg some ((qc (z:=z) (c:=1) p (by decide)).trans (by rw[<-V];rfl))),(i.cell (j:=k*4+2) (by show _<x.hs.n*4;omega)).trans (congrArg some (qc (z:=z) (c:=2) p (by decide))),(i.cell (j:=k*4+3) (by show _<x.hs.n*4;omega)).trans (congrArg some (qc (z:=z) (c:=3) p (by decide))),c3,c4,X,W,S,λj=>i.frozen j,K,Blk.ne2 i b5 (by decide)⟩
def abl(BC r G k o l:Nat)(qv d:Int)(j:Nat):Value:=(#[.pointer (some ⟨BC,0,none⟩),.pointer (some ⟨BC,0,none⟩),.pointer (some ⟨BC,9,none⟩),.map (some r),.pointer (some ⟨G,k*4,none⟩),.pointer (some ⟨G,k*4,none⟩),.pointer (some ⟨G,k*4,none⟩),.int .i64 (o:Int),.pointer (some ⟨G,k*4,none⟩),.pointer (some ⟨G,k*4,none⟩),.pointer (some ⟨G,k*4+1,none⟩),.int .i64 (l:Int),m9 o l,.int .i64 qv,.int .i64 d,.int .i64 (qv+d)]:Array Value).getD j default
structure td(A BC r:Nat)(W0:World)(X:St)(b g:Nat)(q:Int->Int->Int)(o l G k:Nat)(d:Int)(dn:Nat->Bool)(V:Nat->Value)(w:World):Prop where
 val:∀j,j<16->dn j=true->V j=abl BC r G k o l (q o l) d j
 cut:dn 18=false->gu A BC r W0 X b g q w
 fin:dn 18=true->gu A BC r W0 X b g (qt q o l (q o l+d)) w
 ent:dn 16=true->dn 18=false->∃(v0:Value) (st:Nat),V 16 = .tuple #[v0,goInt st]/\(dn 17=true->V 17=goInt st)/\∀v:Int,∃w2,(Instr.entryStore 137 (.map (some r)) (goInt st) (.int .i64 v)).run prog w = .ok () w2/\ki w2 r (qt q o l v)/\qm r w w2
 c18:dn 18=true->dn 15=true/\dn 17=true
 c15:dn 15=true->dn 13=true
 c17:dn 17=true->dn 16=true
section
variable {A BC r:Nat} {W0:World} {X:St} {b g:Nat} {q:Int->Int->Int} {o l G k:Nat} {d:Int} {dn:Nat->Bool} {V:Nat->Value} {w:World}
theorem td.any(h:td A BC r W0 X b g q o l G k d dn V w):∃q',gu A BC r W0 X b g q' w:=by
 cases e:dn 18
 .exact⟨_,h.cut e⟩
 exact⟨_,h.fin e⟩
theorem td.not13(h:td A BC r W0 X b g q o l G k d dn V w)(e:dn 13=false):dn 18=false:=by
 cases a:dn 18
 .rfl
 rw[h.c15 (h.c18 a).1] at e;cases e
theorem td.not17(h:td A BC r W0 X b g q o l G k d dn V w)(e:dn 17=false):dn 18=false:=by
 cases a:dn 18
 .rfl
 rw[(h.c18 a).2] at e;cases e
theorem td.not16(h:td A BC r W0 X b g q o l G k d dn V w)(e:dn 16=false):dn 18=false/\dn 17=false:=by
 have a:dn 17=false:=by
  cases c:dn 17
  .rfl
  rw[h.c17 c] at e;cases e
 exact⟨h.not17 a,a⟩
theorem up{i j:Nat}(h:dn j=true):wm dn i j=true:=by
 by_cases e:j=i
 .rw[e];exact Iv dn i
 rw[ow e];exact h
theorem td.put(h:td A BC r W0 X b g q o l G k d dn V w){i:Nat}(hi:i<16){v:Value}(z:v=abl BC r G k o l (q o l) d i)(m:i=15->dn 13=true):td A BC r W0 X b g q o l G k d (wm dn i) (upd V i v) w:=by
 have c:wm dn i 18=dn 18:=ow (by omega);have f:wm dn i 17=dn 17:=ow (by omega);have n:wm dn i 16=dn 16:=ow (by omega);refine⟨λj t hd => ?_,λhd=>h.cut (c▸hd),λhd=>h.fin (c▸hd),λa p => ?_,λa => ?_,λa => ?_,λa => ?_⟩
 .by_cases e:j=i
  .rw[e,Rq];exact z
  rw[Df V v e];rw[ow e] at hd;exact h.val j t hd
 .rw[n] at a;rw[c] at p;obtain⟨B,st,s,x,y⟩:=h.ent a p;exact⟨B,st,by rw[Df V v (by omega)];exact s,λu=>by rw[Df V v (by omega)];exact x (f▸u),y⟩
 .rw[c] at a;exact⟨up (h.c18 a).1,up (h.c18 a).2⟩
 .by_cases e:15=i
  .exact up (m e.symm)
  rw[ow e] at a;exact up (h.c15 a)
 rw[f] at a;exact up (h.c17 a)
theorem td.entry(h:td A BC r W0 X b g q o l G k d dn V w)(E:dn 16=false){y:Value}{st:Nat}{n:World}(m:ki n r q)(c:qm r w n)(hs:∀v:Int,∃i,(Instr.entryStore 137 (.map (some r)) (goInt st) (.int .i64 v)).run prog n = .ok () i/\ki i r (qt q o l v)/\qm r w i):td A BC r W0 X b g q o l G k d (wm dn 16) (upd V 16 (.tuple #[y,goInt st])) n:=by
 obtain⟨f,z⟩:=h.not16 E;have p:wm dn 16 18=dn 18:=ow (by omega);have u:wm dn 16 17=dn 17:=ow (by omega);refine⟨λj B hd => ?_,λhd=>(h.cut f).store m c,λhd => ?_,λa F => ?_,λa => ?_,λa => ?_,λa => ?_⟩
 .rw[Df V _ (by omega)];rw[ow (by omega)] at hd;exact h.val j B hd
 .rw[p,f] at hd;cases hd
 .refine⟨y,st,Rq _ _ _,λs => ?_,λv => ?_⟩
  .rw[u,z] at s;cases s
  obtain⟨i,a1,D,e⟩:=hs v;exact⟨i,a1,D,⟨e.os.trans c.os.symm,e.tape.trans c.tape.symm,e.output.trans c.output.symm,e.size.trans c.size.symm,λt x=>(e.block t x).trans (c.block t x).symm⟩⟩
 .rw[p,f] at a;cases a
 .rw[ow (by omega)] at a;exact up (h.c15 a)
 exact Iv dn 16
theorem td.extract(h:td A BC r W0 X b g q o l G k d dn V w)(z:dn 17=false)(i:dn 16=true){n:Value}{st:Nat}(p:V 16 = .tuple #[n,goInt st]):td A BC r W0 X b g q o l G k d (wm dn 17) (upd V 17 (goInt st)) w:=by
 have c:=h.not17 z;have m:wm dn 17 18=dn 18:=ow (by omega);refine⟨λj x hd => ?_,λhd=>h.cut c,λhd => ?_,λa D => ?_,λa => ?_,λa => ?_,λa=>up i⟩
 .rw[Df V _ (by omega)];rw[ow (by omega)] at hd;exact h.val j x hd
 .rw[m,c] at hd;cases hd
 .obtain⟨y,f,a1,B,s⟩:=h.ent i c;have u:goInt f=goInt st:=by
   have e:=a1.symm.trans p;simp only[Value.tuple.injEq] at e;have t:(#[y,goInt f]:Array Value)[1]?=(#[n,goInt st]:Array Value)[1]?:=by rw[e]
   simpa using t
  refine⟨n,st,by rw[Df V _ (by omega)];exact p,λ_=>Rq _ _ _,λv => ?_⟩;rw[<-u];exact s v
 .rw[m,c] at a;cases a
 rw[ow (by omega)] at a;exact up (h.c15 a)
theorem td.store(h:td A BC r W0 X b g q o l G k d dn V w)(t:dn 18=false)(f:dn 15=true)(i:dn 17=true){e:World}(m:ki e r (qt q o l (q o l+d)))(s:qm r w e)(v:Value):td A BC r W0 X b g q o l G k d (wm dn 18) (upd V 18 v) e:=by
 have c:wm dn 18 18=true:=Iv dn 18;refine⟨λj p hd => ?_,λhd => ?_,λ_=>(h.cut t).store m s,λa n => ?_,λ_=>⟨up f,up i⟩,λa => ?_,λa => ?_⟩
 .rw[Df V _ (by omega)];rw[ow (by omega)] at hd;exact h.val j p hd
 .rw[c] at hd;cases hd
 .rw[c] at n;cases n
 .rw[ow (by omega)] at a;exact up (h.c15 a)
 rw[ow (by omega)] at a;exact up (h.c17 a)
end
theorem Qp(p:Pl)(A J r:Nat)(W0:World)(x:St)(b g:Nat)(n:Int)(w:World)(h:gu A J r W0 x b g (λ_ _=>0) w)(f:cv p x)(H : -100000<=n/\n<=100000)(hq:∀o l,ky (cd x b g) (max 0 n) (l6 x) o l<=100000):
  Calls prog 106 #[.pointer (some ⟨J,0,none⟩),.int .i64 n] w λe w'=>e = .returned (.tuple #[])/\gu A J r W0 (withHolds (mq x (ky (cd x b g) (max 0 n) (l6 x))) (cp (cd x b g) x.hs (max 0 n))) b g (ky (cd x b g) (max 0 n) (l6 x)) w':=by
 have Q:Hid (gu A J r W0 (withHolds (mq x (λ_ _=>0)) ⟨x.hs.a,x.hs.n,x.hs.c,x.hs.z⟩) b g (λ_ _=>0) w):=by
  show gu A J r W0 (withHolds (mq x (λ_ _=>0)) x.hs) b g (λ_ _=>0) w;rw[Ty];exact h
 have HM:Hid (vl x b g n x.hs.n n x.hs.z (λ_ _=>0)):=⟨rfl,λo l=>Int.zero_add _,λ_ _=>Int.le_refl _,λj hj=>by have:=f.holdN j hj;omega,λ_ _=>⟨rfl,rfl,rfl⟩,by omega,Or.inl rfl⟩;obtain⟨u,-,-,P,-,-,-,-,-,-,-⟩:=h.boxed;have mc:=h.own.hs.2.1;have ml:=h.own.hs.1;unfold maxLen at mc;have fl:=f.hs72;have HF:=hid f;have HQ:=hid hq;clear h f hq;go_enter func106,ntmps106;go_wp2_with fail;clear u P
 go_loopw [1,4] (λnv iv F=>∃(i:Nat) (m:Int) (z:Nat->Hd) (q:Int->Int->Int),i<=x.hs.n/\iv = .int .i64 ((i:Int)-1)/\nv = .int .i64 m/\Hid (gu A J r W0 (withHolds (mq x q) ⟨x.hs.a,x.hs.n,x.hs.c,z⟩) b g q F)/\Hid (vl x b g n i m z q)) (λ_ iv _=>(intOf iv+1).toNat)
 case atStart=>exact⟨x.hs.n,n,x.hs.z,λ_ _=>0,Nat.le_refl _,rfl,rfl,Q,HM⟩
 clear Q HM;obtain⟨i,m,z,q,hi,rfl,rfl,Q,HM⟩:=hrel;have fj:=HM.out.le;by_cases hd:i=0\/m<=0
 .have HD:Hid (z=lf (cd x b g) x.hs.n (max 0 n) x.hs.z/\q=ky (cd x b g) (max 0 n) (l6 x)):=HM.out.done hi hd;obtain⟨u,-,-,P,-,-,-,-,-,-,-⟩:=Q.out.boxed;have cq:wr.cell? ⟨J,2,none⟩=some (.slice x.hs.a x.hs.n x.hs.c):=P;have bo:Hid (Calls prog 97 #[.slice x.hs.a x.hs.n x.hs.c,.func (.func 150) #[] #[]] wr λe w'=>e = .returned (.slice x.hs.a (cp (cd x b g) x.hs (max 0 n)).n x.hs.c)/\ai A w' (withHolds (mq x q) (cp (cd x b g) x.hs (max 0 n)))/\Below A wr w'/\(∀q t m g,t≠61->Blk wr q t m g->Blk w' q t m g)/\KeepsOthers wr w'):=by
   have hz:=HD.out.1;have hD:=Vv 150 #[] ru A (withHolds (mq x q) ⟨x.hs.a,x.hs.n,x.hs.c,z⟩) wr Q.out.le Q.out.own (enters_of func150 (by kernel_rfl) rfl) (λy wz _=>by rw[Array.append_empty];exact Pt y wz);rw[hz] at hD;exact hD
  clear P;by_cases fo:i=0
  .have q1:¬(0:Int)<=(i:Int)-1:=by omega
   go_wp2_with fail;refine bo.out.mono ?_;rintro e w2 ⟨rfl,bg,bh,a8,be⟩;have HN:Hid (gu A J r W0 (withHolds (mq x (ky (cd x b g) (max 0 n) (l6 x))) (cp (cd x b g) x.hs (max 0 n))) b g (ky (cd x b g) (max 0 n) (l6 x)) (w2.setCell ⟨J,2,none⟩ (.slice x.hs.a (cp (cd x b g) x.hs (max 0 n)).n x.hs.c))):=by
    have h:=Q.out.newHolds (m:=cp (cd x b g) x.hs (max 0 n)) bg bh a8 be;rw[HD.out.2] at h;exact h
   have bx:=a8 _ _ _ _ (by decide) Q.out.box;have y1:=bx.lt;have y2:=bx.frozen 2;have y3:=bx.k 2;clear bg bh a8 be bx bo Q HM u cq;go_wp2_with fail
   go_end0
   exact⟨rfl,HN.out⟩
  have fn:m<=0:=by omega
  have q1:(0:Int)<=(i:Int)-1:=by omega
  have q2:¬0<m:=by omega
  go_wp2_with fail;refine bo.out.mono ?_;rintro e w2 ⟨rfl,bg,bh,a8,be⟩;have HN:Hid (gu A J r W0 (withHolds (mq x (ky (cd x b g) (max 0 n) (l6 x))) (cp (cd x b g) x.hs (max 0 n))) b g (ky (cd x b g) (max 0 n) (l6 x)) (w2.setCell ⟨J,2,none⟩ (.slice x.hs.a (cp (cd x b g) x.hs (max 0 n)).n x.hs.c))):=by
   have h:=Q.out.newHolds (m:=cp (cd x b g) x.hs (max 0 n)) bg bh a8 be;rw[HD.out.2] at h;exact h
  have bx:=a8 _ _ _ _ (by decide) Q.out.box;have y1:=bx.lt;have y2:=bx.frozen 2;have y3:=bx.k 2;clear bg bh a8 be bx bo Q HM u cq;go_wp2_with fail
  go_end0
  exact⟨rfl,HN.out⟩
 obtain⟨k,rfl⟩:∃k,i=k+1:=⟨i-1,by omega⟩;have hk:k<x.hs.n:=by omega
 have q1:(0:Int)<=(k:Int):=by omega
 have q2:0<m:=by omega
 have q3:(k:Int)<(x.hs.n:Int):=by omega
 have e1:(((k+1:Nat):Int)-1)=(k:Int):=by omega
 rw[e1];obtain⟨co,cl,ed⟩:=HM.out.key k hk;obtain⟨a1,a2,a3⟩:=iq (HF.out.home k hk);obtain⟨o,ho⟩:=Qzz a1.1;obtain⟨l,hl⟩:=Qzz a2.1;rw[ho] at a1 a2;rw[hl] at a2;have on:o<x.os.n:=a1.2;have ln:l<(x.os.z o).ls.n:=a2.2;have o4:o<4:=by have:=HF.out.os4;omega
 have l3:l<3:=by have:=(HF.out.lns o on).2;omega
 have U:=qa2 (co.trans ho) (cl.trans hl);have ci:Hid (jo x (z k)=((x.os.z o).ls.z l).o):=by show jo x (z k)=_;unfold jo;rw[U.out.1,U.out.2];rfl
 obtain⟨G,hG,de,-⟩:=Q.out.own.hs.2.2.2 (show 0<x.hs.n by omega);obtain⟨gO,B,hO,-,-,-,hB,-,-,nc,cc,-⟩:=Q.out.own.lineCell (o:=o) (l:=l) on ln;have L:=qa3 hG hO hB;have fq:(x.os.z o).ls.n<=(x.os.z o).ls.c:=nc;have dr:(x.os.z o).ls.c<=maxLen:=cc;have oc:x.os.c<=maxLen:=Q.out.own.os.cap;have fk:x.os.n<=x.os.c:=Q.out.own.os.le;unfold maxLen at dr oc;have zp:=HM.out.pos k hk;have bl0:=dz (HF.out.line o on l ln);have qo:=HM.out.q0 o l;have qle:=Int.le_trans (HM.out.qle hi o l) (HQ.out o l);have s0:(0:Int)<=(o:Int):=by omega
 have s1:(o:Int)<(x.os.n:Int):=by omega
 have s2:(0:Int)<=(l:Int):=by omega
 have s3:(l:Int)<((x.os.z o).ls.n:Int):=by omega
 clear co cl ed a1 a2 a3 ho hl hG hO hB nc cc hd e1 de;obtain⟨u,u1,P,u7,u8,u9,gl,X,Y,T,z3,ol,c4,bl,S,W,fG,fB,ne⟩:=vv Q.out hk U.out.1 U.out.2 on ln L.out.1 L.out.2.1 L.out.2.2;have e1:(((k+1:Nat):Int)-1)=(k:Int):=by omega
 go_wp2_with fail;clear u u1 P u7 u8 u9 gl X Y T z3 ol c4 bl S W fG fB ne;obtain⟨u,u1,P,u7,u8,u9,gl,X,Y,T,z3,ol,c4,bl,S,W,fG,fB,ne⟩:=vv Q.out hk U.out.1 U.out.2 on ln L.out.1 L.out.2.1 L.out.2.2;clear fG fB ne z3 W u9;have a9:=Qqq u1;have au:=Qqq P;have aq:=Qqq u7;have av:=Qqq u8;have a0:=Qqq X;have ax:=Qqq Y;have az:=Qqq T;have aw:=Qqq c4;have a5:=Qqq S;refine Qxq (by kernel_rfl) (by kernel_rfl) ?_
 repeat(go_big_quiet_step(fail))
 refine Qqz ?_;intro _ a7;obtain⟨⟨dq,M⟩,af⟩:=a7;subst af;have ah:Hid (gu A J r W0 (withHolds (mq x q) ⟨x.hs.a,x.hs.n,x.hs.c,z⟩) b g q (grow (redrawn wr dq) M)):=Q.out.below (Qxx wr dq M);clear a9 au aq av a0 ax az aw a5 u u1 P u7 u8 gl X Y T ol c4 bl S Q
 generalize grow (redrawn wr dq) M=wa at *
 generalize hZB:(z k).b=ZB at *
 generalize hZO:((x.os.z o).ls.z l).o=ZO at *
 have HZ:=qa2 hZB ci.out;have b3:=hid hZO;clear hZB hZO;cases h1:(ZB==(b:Int))
 .have HN:Hid (vl x b g n k m z q):=HM.out.miss (λe=>by rw[HZ.out.1] at e;simp at h1;omega);have dv:(ZB !=(b:Int))=true:=by simp at h1 ⊢;omega
  go_wp2_with fail;obtain⟨u,u1,P,u7,u8,u9,gl,X,Y,T,z3,ol,c4,bl,S,W,fG,fB,ne⟩:=vv ah.out hk U.out.1 U.out.2 on ln L.out.1 L.out.2.1 L.out.2.2;clear fG fB ne z3 W u9;rw[HZ.out.1] at T;rw[b3.out] at S;have a9:=Qqq u1;have au:=Qqq P;have aq:=Qqq u7;have av:=Qqq u8;have a0:=Qqq X;have ax:=Qqq Y;have az:=Qqq T;have aw:=Qqq c4;have a5:=Qqq S;refine Qxq (by kernel_rfl) (by kernel_rfl) ?_
  repeat(go_big_quiet_step(fail))
  refine Qqz ?_;intro _ a7;obtain⟨⟨dq,M⟩,af⟩:=a7;subst af;have ar:Hid (gu A J r W0 (withHolds (mq x q) ⟨x.hs.a,x.hs.n,x.hs.c,z⟩) b g q (grow (redrawn wa dq) M)):=ah.out.below (Qxx wa dq M);clear a9 au aq av a0 ax az aw a5 u u1 P u7 u8 gl X Y T ol c4 bl S ah
  generalize grow (redrawn wa dq) M=wz at *
  go_wp2_with fail;go_roundw
  case rel=>exact⟨k,m,z,q,by omega,by go_num,rfl,ar,HN⟩
  case measure=>simp[intOf]
 have dv:(ZB !=(b:Int))=false:=by simp at h1 ⊢;omega
 cases h2:(ZO==(g:Int))
 .have HN:Hid (vl x b g n k m z q):=HM.out.miss (λe=>by rw[HZ.out.2] at e;simp at h2;omega);have dl:(ZO !=(g:Int))=true:=by simp at h2 ⊢;omega
  go_wp2_with fail;obtain⟨u,u1,P,u7,u8,u9,gl,X,Y,T,z3,ol,c4,bl,S,W,fG,fB,ne⟩:=vv ah.out hk U.out.1 U.out.2 on ln L.out.1 L.out.2.1 L.out.2.2;clear fG fB ne z3 W u9;rw[HZ.out.1] at T;rw[b3.out] at S;have a9:=Qqq u1;have au:=Qqq P;have aq:=Qqq u7;have av:=Qqq u8;have a0:=Qqq X;have ax:=Qqq Y;have az:=Qqq T;have aw:=Qqq c4;have a5:=Qqq S;refine Qxq (by kernel_rfl) (by kernel_rfl) ?_
  repeat(go_big_quiet_step(fail))
  refine Qqz ?_;intro _ a7;obtain⟨⟨dq,M⟩,af⟩:=a7;subst af;have ar:Hid (gu A J r W0 (withHolds (mq x q) ⟨x.hs.a,x.hs.n,x.hs.c,z⟩) b g q (grow (redrawn wa dq) M)):=ah.out.below (Qxx wa dq M);clear a9 au aq av a0 ax az aw a5 u u1 P u7 u8 gl X Y T ol c4 bl S ah
  generalize grow (redrawn wa dq) M=wz at *
  go_wp2_with fail;go_roundw
  case rel=>exact⟨k,m,z,q,by omega,by go_num,rfl,ar,HN⟩
  case measure=>simp[intOf]
 have dl:(ZO !=(g:Int))=false:=by simp at h2 ⊢;omega
 have HN:Hid (vl x b g n k (m-min m (z k).n) (gy z k (min m (z k).n)) (qt q o l (q o l+min m (z k).n))):=HM.out.hit hk q2 (by rw[HZ.out.1];simpa using h1) (by rw[HZ.out.2];simpa using h2) U.out.1 U.out.2;go_wp2_with fail;obtain⟨u,u1,P,u7,u8,u9,gl,X,Y,T,z3,ol,c4,bl,S,W,fG,fB,ne⟩:=vv ah.out hk U.out.1 U.out.2 on ln L.out.1 L.out.2.1 L.out.2.2;clear fG fB ne z3 W u9;rw[HZ.out.1] at T;rw[b3.out] at S;have a9:=Qqq u1;have au:=Qqq P;have aq:=Qqq u7;have av:=Qqq u8;have a0:=Qqq X;have ax:=Qqq Y;have az:=Qqq T;have aw:=Qqq c4;have a5:=Qqq S;refine Qxq (by kernel_rfl) (by kernel_rfl) ?_
 repeat(go_big_quiet_step(fail))
 refine Qqz ?_;intro _ a7;obtain⟨⟨dq,M⟩,af⟩:=a7;subst af;have ar:Hid (gu A J r W0 (withHolds (mq x q) ⟨x.hs.a,x.hs.n,x.hs.c,z⟩) b g q (grow (redrawn wa dq) M)):=ah.out.below (Qxx wa dq M);clear a9 au aq av a0 ax az aw a5 u u1 P u7 u8 gl X Y T ol c4 bl S ah
 generalize grow (redrawn wa dq) M=wz at *
 obtain⟨u,u1,P,u7,u8,u9,gl,X,Y,T,z3,ol,c4,bl,S,W,fG,fB,ne⟩:=vv ar.out hk U.out.1 U.out.2 on ln L.out.1 L.out.2.1 L.out.2.2;have f1:=fG (k*4+3);have f2:=fB (l*4+3);have ne2:¬B=G:=λe=>ne e.symm;have bm:Hid (gu A J r W0 (withHolds (mq x (qt q o l (q o l+min m (z k).n))) ⟨x.hs.a,x.hs.n,x.hs.c,gy z k (min m (z k).n)⟩) b g q ((wz.setCell ⟨G,k*4+3,none⟩ (.int .i64 ((z k).n-min m (z k).n))).setCell ⟨B,l*4+3,none⟩ (.int .i64 (((x.os.z o).ls.z l).n+q o l+min m (z k).n)))):=by
  have h1:=ar.out.holdN (i:=k) (G:=G) hk L.out.1 (min m (z k).n);have h2:=h1.back (o:=o) (B:=B) on L.out.2.2 l (((x.os.z o).ls.z l).n+q o l+min m (z k).n);have e:setLine (withHolds (withHolds (mq x q) ⟨x.hs.a,x.hs.n,x.hs.c,z⟩) (Bn ⟨x.hs.a,x.hs.n,x.hs.c,z⟩ k (min m (z k).n))) o l 3 (((x.os.z o).ls.z l).n+q o l+min m (z k).n)=withHolds (setLine (mq x q) o l 3 (((x.os.z o).ls.z l).n+q o l+min m (z k).n)) ⟨x.hs.a,x.hs.n,x.hs.c,gy z k (min m (z k).n)⟩:=rfl;rw[Yn] at e;rw[<-e];exact h2
 have b0:Hid ((gy z k (min m (z k).n) k).o=(o:Int)/\(gy z k (min m (z k).n) k).l=(l:Int)):=by
  have e:gy z k (min m (z k).n) k=iz (z k) (min m (z k).n):=if_pos rfl;show(gy z k (min m (z k).n) k).o=(o:Int)/\(gy z k (min m (z k).n) k).l=(l:Int);rw[e];exact U.out
 obtain⟨X3,bn⟩:∃X3,withHolds (mq x (qt q o l (q o l+min m (z k).n))) ⟨x.hs.a,x.hs.n,x.hs.c,gy z k (min m (z k).n)⟩=X3:=⟨_,rfl⟩;have cu:=hid bn;have b7:Hid (∀F q',gu A J r W0 X3 b g q' F->J<F.heap.size/\F.cell? ⟨J,9,none⟩=some (.map (some r))/\G<F.heap.size/\F.cell? ⟨G,k*4,none⟩=some (.int .i64 (o:Int))/\F.cell? ⟨G,k*4+1,none⟩=some (.int .i64 (l:Int))):=λF q' hc=>by
  rw[<-bn] at hc;obtain⟨u,u1,P,u7,u8,u9,gl,X,Y,-⟩:=vv (z:=gy z k (min m (z k).n)) hc hk b0.out.1 b0.out.2 on ln L.out.1 L.out.2.1 L.out.2.2;exact⟨u,u9,gl,X,Y⟩
 rw[bn] at bm;clear ar fG fB HM ci bn b0;have qB : -9223372036854775808<=q o l+min m (z k).n/\q o l+min m (z k).n<=9223372036854775807:=by omega
 obtain⟨MM,ea⟩:∃MM,min m (z k).n=MM:=⟨_,rfl⟩;rw[ea] at bm cu HN qB;have fm:0<=MM/\MM<=200/\MM<=m/\MM<=(z k).n:=by omega
 generalize (z k).n=ZN at *
 generalize ((x.os.z o).ls.z l).n=LN at *
 go_wp2_with fail;obtain⟨w3,cg⟩:∃w3,((wz.setCell ⟨G,k*4+3,none⟩ (.int .i64 (ZN-MM))).setCell ⟨B,l*4+3,none⟩ (.int .i64 (LN+q o l+MM)))=w3:=⟨_,rfl⟩;rw[cg] at bm ⊢;clear cg u u1 P u7 u8 u9 gl X Y T z3 ol c4 bl S W f1 f2 ne ne2;have cy:Hid (gu A J r W0 X3 b g q w3.drew):=bm.out.below (brf.drew);refine Pv [0,1,2,3,4,5,6,7,8,9,10,11,12,13,14,15,16,17,18] (by kernel_rfl) (by kernel_rfl) (by kernel_rfl) (by kernel_rfl) (td A J r W0 X3 b g q o l G k MM) ?zei (Qjx ⟨?ze0,Qjx ⟨?ze1,Qjx ⟨?ze2,Qjx ⟨?ze3,Qjx ⟨?ze4,Qjx ⟨?ze5,Qjx ⟨?ze6,Qjx ⟨?ze7,Qjx ⟨?ze8,Qjx ⟨?ze9,Qjx ⟨?ze10,Qjx ⟨?ze11,Qjx ⟨?ze12,Qjx ⟨?ze13,Qjx ⟨?ze14,Qjx ⟨?ze15,Qjx ⟨?ze16,Qjx ⟨?ze17,Qjx ⟨?ze18,Qjq _⟩⟩⟩⟩⟩⟩⟩⟩⟩⟩⟩⟩⟩⟩⟩⟩⟩⟩⟩) ?zed
 case zei =>
  intro D V hd;have f:∀j,j∈[0,1,2,3,4,5,6,7,8,9,10,11,12,13,14,15,16,17,18]->¬D j=true:=λj hj h=>by rw[hd j hj] at h;cases h
  exact⟨λj hj h=>absurd h (f j (by simp only[List.mem_cons,List.not_mem_nil,or_false];omega)),λ_=>cy.out,λh=>absurd h (f 18 (by simp)),λh=>absurd h (f 16 (by simp)),λh=>absurd h (f 18 (by simp)),λh=>absurd h (f 15 (by simp)),λh=>absurd h (f 17 (by simp))⟩
 case ze0 =>
  intro D V F K H hd d E;have s:=hid d;clear d;refine ay 0 rfl ?_;simp only[am,bu,Qvz,Qwq,Qvx,Act.put,Qvq,Qwx,Qwz] at E ⊢;go_wp2_with fail;exact s.out.put (i:=0) (by decide) rfl (λh=>absurd h (by decide))
 case ze1 =>
  intro D V F K H hd d E;have S:D 0=true:=hd 0 (Qjz (by kernel_rfl)) (by simp);have e0:V 0 = .pointer (some ⟨J,0,none⟩):=d.val 0 (by decide) S;have s:=hid d;clear d;refine ay 1 rfl ?_;simp only[am,bu,Qvz,Qwq,Qvx,Act.put,Qvq,Qwx,Qwz,e0] at E ⊢;go_wp2_with fail;exact s.out.put (i:=1) (by decide) rfl (λh=>absurd h (by decide))
 case ze2 =>
  intro D V F K H hd d E;have d1:D 1=true:=hd 1 (Qjz (by kernel_rfl)) (by simp);have e1:V 1 = .pointer (some ⟨J,0,none⟩):=d.val 1 (by decide) d1;have s:=hid d;clear d;refine ay 2 rfl ?_;simp only[am,bu,Qvz,Qwq,Qvx,Act.put,Qvq,Qwx,Qwz,e1] at E ⊢;go_wp2_with fail;exact s.out.put (i:=2) (by decide) rfl (λh=>absurd h (by decide))
 case ze3 =>
  intro D V F K H hd d E;have d2:D 2=true:=hd 2 (Qjz (by kernel_rfl)) (by simp);have e2:V 2 = .pointer (some ⟨J,9,none⟩):=d.val 2 (by decide) d2;have s:=hid d;obtain⟨q',al⟩:=d.any;obtain⟨y1,y2,y3,y4,y5⟩:=b7.out F q' al;clear al;clear d;refine ay 3 rfl ?_;simp only[am,bu,Qvz,Qwq,Qvx,Act.put,Qvq,Qwx,Qwz,e2] at E ⊢;go_wp2_with fail;exact s.out.put (i:=3) (by decide) rfl (λh=>absurd h (by decide))
 case ze4 =>
  intro D V F K H hd d E;have s:=hid d;clear d;refine ay 4 rfl ?_;simp only[am,bu,Qvz,Qwq,Qvx,Act.put,Qvq,Qwx,Qwz] at E ⊢;go_wp2_with fail;exact s.out.put (i:=4) (by decide) rfl (λh=>absurd h (by decide))
 case ze5 =>
  intro D V F K H hd d E;have d4:D 4=true:=hd 4 (Qjz (by kernel_rfl)) (by simp);have e4:V 4 = .pointer (some ⟨G,k*4,none⟩):=d.val 4 (by decide) d4;have s:=hid d;clear d;refine ay 5 rfl ?_;simp only[am,bu,Qvz,Qwq,Qvx,Act.put,Qvq,Qwx,Qwz,e4] at E ⊢;go_wp2_with fail;exact s.out.put (i:=5) (by decide) rfl (λh=>absurd h (by decide))
 case ze6 =>
  intro D V F K H hd d E;have d5:D 5=true:=hd 5 (Qjz (by kernel_rfl)) (by simp);have e5:V 5 = .pointer (some ⟨G,k*4,none⟩):=d.val 5 (by decide) d5;have s:=hid d;clear d;refine ay 6 rfl ?_;simp only[am,bu,Qvz,Qwq,Qvx,Act.put,Qvq,Qwx,Qwz,e5] at E ⊢;go_wp2_with fail;exact s.out.put (i:=6) (by decide) rfl (λh=>absurd h (by decide))
 case ze7 =>
  intro D V F K H hd d E;have d6:D 6=true:=hd 6 (Qjz (by kernel_rfl)) (by simp);have e6:V 6 = .pointer (some ⟨G,k*4,none⟩):=d.val 6 (by decide) d6;have s:=hid d;obtain⟨q',al⟩:=d.any;obtain⟨y1,y2,y3,y4,y5⟩:=b7.out F q' al;clear al;clear d;refine ay 7 rfl ?_;simp only[am,bu,Qvz,Qwq,Qvx,Act.put,Qvq,Qwx,Qwz,e6] at E ⊢;go_wp2_with fail;exact s.out.put (i:=7) (by decide) rfl (λh=>absurd h (by decide))
 case ze8 =>
  intro D V F K H hd d E;have s:=hid d;clear d;refine ay 8 rfl ?_;simp only[am,bu,Qvz,Qwq,Qvx,Act.put,Qvq,Qwx,Qwz] at E ⊢;go_wp2_with fail;exact s.out.put (i:=8) (by decide) rfl (λh=>absurd h (by decide))
 case ze9 =>
  intro D V F K H hd d E;have d8:D 8=true:=hd 8 (Qjz (by kernel_rfl)) (by simp);have e8:V 8 = .pointer (some ⟨G,k*4,none⟩):=d.val 8 (by decide) d8;have s:=hid d;clear d;refine ay 9 rfl ?_;simp only[am,bu,Qvz,Qwq,Qvx,Act.put,Qvq,Qwx,Qwz,e8] at E ⊢;go_wp2_with fail;exact s.out.put (i:=9) (by decide) rfl (λh=>absurd h (by decide))
 case ze10 =>
  intro D V F K H hd d E;have d9:D 9=true:=hd 9 (Qjz (by kernel_rfl)) (by simp);have e9:V 9 = .pointer (some ⟨G,k*4,none⟩):=d.val 9 (by decide) d9;have s:=hid d;clear d;refine ay 10 rfl ?_;simp only[am,bu,Qvz,Qwq,Qvx,Act.put,Qvq,Qwx,Qwz,e9] at E ⊢;go_wp2_with fail;exact s.out.put (i:=10) (by decide) rfl (λh=>absurd h (by decide))
 case ze11 =>
  intro D V F K H hd d E;have ec:D 10=true:=hd 10 (Qjz (by kernel_rfl)) (by simp);have dw:V 10 = .pointer (some ⟨G,k*4+1,none⟩):=d.val 10 (by decide) ec;have s:=hid d;obtain⟨q',al⟩:=d.any;obtain⟨y1,y2,y3,y4,y5⟩:=b7.out F q' al;clear al;clear d;refine ay 11 rfl ?_;simp only[am,bu,Qvz,Qwq,Qvx,Act.put,Qvq,Qwx,Qwz,dw] at E ⊢;go_wp2_with fail;exact s.out.put (i:=11) (by decide) rfl (λh=>absurd h (by decide))
 case ze12 =>
  intro D V F K H hd d E;have d7:D 7=true:=hd 7 (Qjz (by kernel_rfl)) (by simp);have e7:V 7 = .int .i64 (o:Int):=d.val 7 (by decide) d7;have dg:D 11=true:=hd 11 (Qjz (by kernel_rfl)) (by simp);have c9:V 11 = .int .i64 (l:Int):=d.val 11 (by decide) dg;have s:=hid d;clear d;refine ay 12 rfl ?_;simp only[am,bu,Qvz,Qwq,Qvx,Act.put,Qvq,Qwx,Qwz,e7,c9] at E ⊢;go_wp2_with fail;exact s.out.put (i:=12) (by decide) rfl (λh=>absurd h (by decide))
 case ze13 =>
  intro D V F K H hd d E;have W:D 3=true:=hd 3 (Qjz (by kernel_rfl)) (by simp);have e3:V 3 = .map (some r):=d.val 3 (by decide) W;have b2:D 12=true:=hd 12 (Qjz (by kernel_rfl)) (by simp);have b1:V 12 = .agg #[.int .i64 (o:Int),.int .i64 (l:Int)]:=d.val 12 (by decide) b2;have s:=hid d;have lk:=Rb (d.cut (d.not13 H)).map o4 l3;unfold m9 at lk;clear d;refine ay 13 rfl ?_;simp only[am,bu,Qvz,Qwq,Qvx,Act.put,Qvq,Qwx,Qwz,e3,b1] at E ⊢;go_wp2_with fail;exact s.out.put (i:=13) (by decide) rfl (λh=>absurd h (by decide))
 case ze14 =>
  intro D V F K H hd d E;have s:=hid d;clear d;refine ay 14 rfl ?_;simp only[am,bu,Qvz,Qwq,Qvx,Act.put,Qvq,Qwx,Qwz] at E ⊢;go_wp2_with fail;exact s.out.put (i:=14) (by decide) rfl (λh=>absurd h (by decide))
 case ze15 =>
  intro D V F K H hd d E;have cs:D 13=true:=hd 13 (Qjz (by kernel_rfl)) (by simp);have dk:V 13 = .int .i64 (q o l):=d.val 13 (by decide) cs;have da:D 14=true:=hd 14 (Qjz (by kernel_rfl)) (by simp);have db:V 14 = .int .i64 MM:=d.val 14 (by decide) da;have s:=hid d;clear d;have fp:=qB;refine ay 15 rfl ?_;simp only[am,bu,Qvz,Qwq,Qvx,Act.put,Qvq,Qwx,Qwz,dk,db] at E ⊢;go_wp2_with fail;exact s.out.put (i:=15) (by decide) rfl (λ_=>cs)
 case ze16 =>
  intro D V F K H hd d E;have W:D 3=true:=hd 3 (Qjz (by kernel_rfl)) (by simp);have e3:V 3 = .map (some r):=d.val 3 (by decide) W;have b2:D 12=true:=hd 12 (Qjz (by kernel_rfl)) (by simp);have b1:V 12 = .agg #[.int .i64 (o:Int),.int .i64 (l:Int)]:=d.val 12 (by decide) b2;have s:=hid d;obtain⟨v0,st,w1,c7,cm,ck,ct⟩:=Xg (d.cut (d.not16 H).1).map o4 l3;unfold m9 at c7;have b5:Hid (qm r F w1/\ki w1 r q/\∀v:Int,∃w2,(Instr.entryStore 137 (.map (some r)) (goInt st) (.int .i64 v)).run prog w1 = .ok () w2/\ki w2 r (qt q o l v)/\qm r F w2):=⟨cm,ck,ct⟩;clear cm ck ct;clear d;refine ay 16 rfl ?_;simp only[am,bu,Qvz,Qwq,Qvx,Act.put,Qvq,Qwx,Qwz,e3,b1] at E ⊢;go_wp2_with fail;exact s.out.entry H b5.out.2.1 b5.out.1 b5.out.2.2
 case ze17 =>
  intro D V F K H hd d E;have ch:D 16=true:=hd 16 (Qjz (by kernel_rfl)) (by simp);have s:=hid d;obtain⟨v0,st,bp,-,-⟩:=d.ent ch (d.not17 H);have cw:=hid bp;clear d;refine ay 17 rfl ?_;simp only[am,bu,Qvz,Qwq,Qvx,Act.put,Qvq,Qwx,Qwz,bp] at E ⊢;go_wp2_with fail;exact s.out.extract H ch cw.out
 case ze18 =>
  intro D V F K H hd d E;have W:D 3=true:=hd 3 (Qjz (by kernel_rfl)) (by simp);have e3:V 3 = .map (some r):=d.val 3 (by decide) W;have cf:D 15=true:=hd 15 (Qjz (by kernel_rfl)) (by simp);have dj:V 15 = .int .i64 (q o l+MM):=d.val 15 (by decide) cf;have b6:D 17=true:=hd 17 (Qjz (by kernel_rfl)) (by simp);have s:=hid d;obtain⟨v0,st,bp,bk,es⟩:=d.ent (d.c17 b6) H;have bk:=bk b6;obtain⟨w2,dc,cn,cj⟩:=es (q o l+MM);have cr:=qa2 cn cj;clear es cn cj bp;unfold goInt at dc bk;clear d;refine ay 18 rfl ?_;simp only[am,bu,Qvz,Qwq,Qvx,Act.put,Qvq,Qwx,Qwz,e3,dj,bk] at E ⊢;go_wp2_with fail;exact E undef _ (s.out.store H cf b6 cr.out.1 cr.out.2 undef)
 case zed =>
  intro D V F hd d;have ee:Hid (gu A J r W0 X3 b g (qt q o l (q o l+MM)) F):=d.fin (hd 18 (by simp));clear d hd;simp only[am,bu,Qvz,Qwq,Qvx,Act.put,Qvq,Qwx,Qwz];refine NoPanic.normal ?_;go_wp2_with fail;go_roundw
  case rel=>exact⟨k,m-MM,gy z k MM,qt q o l (q o l+MM),by omega,by go_num,by go_num,by rw[cu.out];exact ee,HN⟩
  case measure=>simp[intOf]
def J8(p:Pl)(x0:St)(b:Nat)(q:Int->Int->Int)(i:Nat)(cur:St):Prop:=h9 p b (λi j=>q i j) (v7 x0) x0 i cur
def tq(p:Pl)(x0:St)(b:Nat)(q:Int->Int->Int)(i j:Nat)(cur:St):Prop:=∃y,J8 p x0 b q i y/\kt p b (λi j=>q i j) i y j cur
section
variable {p:Pl} {x0 cur x:St} {b:Nat} {q:Int->Int->Int} {i j:Nat}
theorem tq.next(h:tq p x0 b q i (x0.os.z i).ls.n cur):J8 p x0 b q (i+1) cur:=h
theorem J8.row(h:J8 p x0 b q i cur):tq p x0 b q i 0 cur:=⟨cur,h,rfl⟩
theorem tq.pos(Q:QIn p b (λi j=>q i j) x0)(h:tq p x0 b q i j cur)(hi:i<x0.os.n)(a:j<=(x0.os.z i).ls.n):Pos p b (λi j=>q i j) x0 i j cur:=by
 obtain⟨y,d,c⟩:=h;exact kt.pos Q (h9.pos Q (λ_ _=>rfl) (Nat.le_of_lt hi) d) hi a c
theorem tq.step(h:tq p x0 b q i j cur)(T:lg p b cur i j (q i j) x):tq p x0 b q i (j+1) x:=by
 obtain⟨y,c,a⟩:=h;exact⟨y,c,cur,a,T⟩
theorem tq.skip(Q:QIn p b (λi j=>q i j) x0)(h:tq p x0 b q i j cur)(hi:i<x0.os.n)(c:j<(x0.os.z i).ls.n)(d:q i j=0):tq p x0 b q i (j+1) cur:=by
 have I:=(h.pos Q hi (Nat.le_of_lt c)).stepIn Q hi c;have T:=I.tki;have a:ix p cur i j (q i j):=T;rw[d] at a;refine h.step ?_;rw[d];exact lg.skip a
end
theorem px{A a r n:Nat}{b w:World}{y:St}{q:Int->Int->Int}{f:Nat->Value}(h:ai A w y/\Blk w a 139 10 f/\ki w r q/\Below n b w)(c:n<=a)(j:Nat)(u:Value):ai A (w.setCell ⟨a,j,none⟩ u) y/\Blk (w.setCell ⟨a,j,none⟩ u) a 139 10 (λk=>if k=j then u else f k)/\ki (w.setCell ⟨a,j,none⟩ u) r q/\Below n b (w.setCell ⟨a,j,none⟩ u):=
 ⟨h.1.boxC h.2.1 j u,h.2.1.set j u,h.2.2.1.set (h.2.1.noMap h.2.2.1) u,h.2.2.2.setCell (p:=⟨a,j,none⟩) c u⟩
theorem gu.newState{A e r:Nat}{i f:World}{x y:St}{b g:Int}{q:Int->Int->Int}(h:gu A e r i x b g q f)(m:ai A f y):gu A e r i y b g q (set7 f e (.slice y.on.a y.on.n y.on.c) (.slice y.os.a y.os.n y.os.c) (.slice y.hs.a y.hs.n y.hs.c) (.slice y.ms.a y.ms.n y.ms.c) (.slice y.si.a y.si.n y.si.c) (.slice y.so.a y.so.n y.so.c) (.slice y.sf.a y.sf.n y.sf.c)):=by
 have b1:=h.w0;have b2:=h.bc;have d:i.heap.size<=e:=by omega
 have k:=px (px (px (px (px (px (px ⟨m,h.box,h.map,h.bel⟩ d 0 (.slice y.on.a y.on.n y.on.c)) d 1 (.slice y.os.a y.os.n y.os.c)) d 2 (.slice y.hs.a y.hs.n y.hs.c)) d 3 (.slice y.ms.a y.ms.n y.ms.c)) d 4 (.slice y.si.a y.si.n y.si.c)) d 5 (.slice y.so.a y.so.n y.so.c)) d 6 (.slice y.sf.a y.sf.n y.sf.c);unfold set7;refine⟨k.1,k.2.1.congr λj l => ?_,k.2.2.1,k.2.2.2,by have:=h.le;simpa using this,h.w0,h.bc,h.ra⟩
 match j,l with
 | 0,_=>rfl
 | 1,_=>rfl
 | 2,_=>rfl
 | 3,_=>rfl
 | 4,_=>rfl
 | 5,_=>rfl
 | 6,_=>rfl
 | 7,_=>rfl
 | 8,_=>rfl
 | 9,_=>rfl
theorem ai.cut7{A f r:Nat}{i e:World}{x y s:St}{b g:Int}{q:Int->Int->Int}(h:gu A f r i x b g q e)(j:ai A e s):ai A (Go.Proofs.YtbcacebifpagpagGreat.set7 e f (.slice y.on.a y.on.n y.on.c) (.slice y.os.a y.os.n y.os.c) (.slice y.hs.a y.hs.n y.hs.c) (.slice y.ms.a y.ms.n y.ms.c) (.slice y.si.a y.si.n y.si.c) (.slice y.so.a y.so.n y.so.c) (.slice y.sf.a y.sf.n y.sf.c)) s:=by
 have b1:=h.w0;have b2:=h.bc;have d:i.heap.size<=f:=by omega
 have k:=px (px (px (px (px (px (px ⟨j,h.box,h.map,h.bel⟩ d 0 (.slice y.on.a y.on.n y.on.c)) d 1 (.slice y.os.a y.os.n y.os.c)) d 2 (.slice y.hs.a y.hs.n y.hs.c)) d 3 (.slice y.ms.a y.ms.n y.ms.c)) d 4 (.slice y.si.a y.si.n y.si.c)) d 5 (.slice y.so.a y.so.n y.so.c)) d 6 (.slice y.sf.a y.sf.n y.sf.c);unfold Go.Proofs.YtbcacebifpagpagGreat.set7;exact k.1
theorem Blk.cut7{w:World}{B b n:Nat}{T:TypeId}{f:Nat->Value}(h:Blk w B T n f)(ne:B≠b)(i j g k e d c:Value):Blk (set7 w b i j g k e d c) B T n f:=by
 unfold set7;exact((((((h.other (a:=⟨b,0,none⟩) ne i).other (a:=⟨b,1,none⟩) ne j).other (a:=⟨b,2,none⟩) ne g).other (a:=⟨b,3,none⟩) ne k).other (a:=⟨b,4,none⟩) ne e).other (a:=⟨b,5,none⟩) ne d).other (a:=⟨b,6,none⟩) ne c
structure D6(p:Pl)(x0:St)(A BC r:Nat)(W0:World)(b g:Int)(q:Int->Int->Int)(BP:Nat)(cur:St)(wk:World):Prop where
 own0:ai A wk x0
 cut:gu A BC r W0 cur b g q wk
 plan:Blk wk BP 25 2 (λj=>(#[.slice p.ab p.nb p.cb,.slice p.sa p.ns p.cs]:Array Value).getD j default)
theorem D6.below{p:Pl}{e cur:St}{A f r d:Nat}{j c i:World}{b g:Int}{q:Int->Int->Int}(h:D6 p e A f r j b g q d cur c)(a:Below c.heap.size c i):D6 p e A f r j b g q d cur i:=⟨ai.below h.own0 a,h.cut.below a,h.plan.below a⟩
theorem Jk(p:Pl)(A B r:Nat)(v:World)(f:St)(b g:Nat)(q:Int->Int->Int)(w:World)(h:gu A B r v f b g q w)(hp:∀E,Below v.heap.size v E->p.At E)(Q:QIn p b (λi j=>q i j) f):
  Calls prog 108 #[.pointer (some ⟨B,0,none⟩),p.val] w λe w'=>e = .returned (.tuple #[])/\∃y,h9 p b (λi j=>q i j) (v7 f) f f.os.n y/\gu A B r v y b g q w':=by
 have HP:Hid (∀E,Below v.heap.size v E->p.At E):=hp;have HQ:Hid (QIn p b (λi j=>q i j) f):=Q;have ol:f.os.n<=f.os.c:=h.own.os.le;have oc:f.os.c<=maxLen:=h.own.os.cap;unfold maxLen at oc;have cc:f.os.n<=4:=Q.r.fm.os4;obtain⟨W1,hW,M,K1⟩:∃W,w.alloc (.cells #[.slice p.ab p.nb p.cb,.slice p.sa p.ns p.cs] 25)=W/\Below w.heap.size w W/\Blk W w.heap.size 25 2 (λj=>(#[.slice p.ab p.nb p.cb,.slice p.sa p.ns p.cs]:Array Value).getD j default):=⟨_,rfl,brf.alloc nlr _,Blk.mk' rfl rfl⟩;have V:Hid (w.alloc (.cells #[.slice p.ab p.nb p.cb,.slice p.sa p.ns p.cs] 25)=W1):=hW;have h':=h.below M;have s:Hid (D6 p f A B r v b g q w.heap.size f W1):=⟨h'.own,h',K1⟩;obtain⟨u,-,u1,-⟩:=h'.boxed;rw[<-V.out] at u u1;clear hW M K1 h h' hp Q;unfold Pl.val;go_enter func108,ntmps108;go_wp2_with fail;rw[V.out];clear u u1 V
 generalize w.heap.size=G at *
 go_loopw [14] (λkv E=>∃(i:Nat) (cur:St),i<=f.os.n/\kv = .int .i64 i/\Hid (D6 p f A B r v b g q G cur E)/\Hid (J8 p f b q i cur)) (λkv _=>f.os.n-(intOf kv).toNat)
 case atStart=>exact⟨0,f,Qxz _,rfl,s,ae.self f⟩
 clear s;obtain⟨i,cur,hi,rfl,s,HA⟩:=hrel;by_cases F:i<f.os.n;rotate_left
 .have bn:i=f.os.n:=by omega
  subst bn;go_wp2_with fail
  go_end0
  exact⟨rfl,cur,HA.out,s.out.cut⟩
 have q0:(0:Int)<=(i:Int):=by omega
 have q1:(i:Int)<(f.os.n:Int):=by omega
 obtain⟨bo,oo,an,bs,z0,z1,ad⟩:=s.out.own0.at.os.ods i F;have ll:=ad.le;have lc:=ad.cap;unfold maxLen at lc;have ce:(f.os.z i).ls.n<=3:=(HQ.out.r.fm.lns i F).2;rw[an];clear an ad;obtain⟨W,hW,M⟩:∃W,wr.alloc (.cells #[.int .i64 (f.os.z i).k,.slice (f.os.z i).ls.a (f.os.z i).ls.n (f.os.z i).ls.c] 57)=W/\Below wr.heap.size wr W:=⟨_,rfl,brf.alloc nlr _⟩;have V:Hid (wr.alloc (.cells #[.int .i64 (f.os.z i).k,.slice (f.os.z i).ls.a (f.os.z i).ls.n (f.os.z i).ls.c] 57)=W):=hW;have al:Hid (D6 p f A B r v b g q G cur W):=s.out.below M;clear hW M;go_wp2_with fail;rw[V.out];clear z0 z1 bs V q0 q1
 go_loopw [22] (λjv E=>∃(j:Nat) (t:St),j<=(f.os.z i).ls.n/\jv = .int .i64 j/\Hid (D6 p f A B r v b g q G t E)/\Hid (tq p f b q i j t)) (λjv _=>(f.os.z i).ls.n-(intOf jv).toNat)
 case atStart=>exact⟨0,cur,Qxz _,rfl,al,HA.out.row⟩
 clear al s HA;obtain⟨j,t,hj,rfl,s,U⟩:=hrel;by_cases X:j<(f.os.z i).ls.n;rotate_left
 .have be:j=(f.os.z i).ls.n:=by omega
  subst be;have S:Hid (J8 p f b q (i+1) t):=U.out.next;go_wp2_with fail;go_roundw
  case rel=>exact⟨i+1,t,by omega,by go_num,s,S⟩
  case measure=>simp[intOf];omega
 have q2:(0:Int)<=(j:Int):=by omega
 have q3:(j:Int)<((f.os.z i).ls.n:Int):=by omega
 have lk:=Rb (o:=i) (l:=j) s.out.cut.map (by omega) (by omega);unfold m9 at lk;obtain⟨u,-,-,-,-,-,-,-,-,-,u9⟩:=s.out.cut.boxed;have af:Hid (Pos p b (λi j=>q i j) f i j t):=U.out.pos HQ.out F (Nat.le_of_lt X);have K:Hid (j5 p b t i j (q i j)):=af.out.stepIn HQ.out F X;have au:=K.out.n0;by_cases hq:0<q i j;rotate_left
 .have S:Hid (tq p f b q i (j+1) t):=U.out.skip HQ.out F X (by omega);clear K U af;obtain⟨H,J⟩:∃H,q i j=H:=⟨_,rfl⟩;rw[J] at lk hq au;clear J;go_wp2_with fail;go_roundw
  case rel=>exact⟨j+1,t,by omega,by go_num,s,S⟩
  case measure=>simp[intOf];omega
 have ar:Hid ((t.os.z i).k=1):=by
  rcases K.out.kd with e|e
  .omega
  exact e.1
 have P:Hid (ew p t i j (q i j) b=0):=by have I:=K.out.allocIn ar.out;exact I.less ⟨I.n0,Int.le_refl _⟩
 have ac:Hid (∀x,lg p b t i j (q i j) x->tq p f b q i (j+1) x):=λx T=>U.out.step T;clear K ar U af;obtain⟨H,J⟩:∃H,q i j=H:=⟨_,rfl⟩;rw[J] at lk P ac hq au;clear J;go_wp2_with fail;clear lk u u9;obtain⟨pm,p0,p1,p2,p3,p4,p5,p6,p7,-,-⟩:=s.out.cut.boxed;have d0:wr.cell? ⟨G,0,none⟩=some (.slice p.ab p.nb p.cb):=s.out.plan.k 0;have d1:wr.cell? ⟨G,1,none⟩=some (.slice p.sa p.ns p.cs):=s.out.plan.k 1;have l1:=s.out.plan.lt;have bi:=Qqq p0;have bq:=Qqq p1;have ba:=Qqq p2;have bj:=Qqq p3;have bl:=Qqq p4;have a2:=Qqq p5;have bf:=Qqq p6;have bt:=Qqq p7;have bk:=Qqq d0;have a0:=Qqq d1;refine i9 [(false,[0,2,3,4,6,7,8,9,10,11],none),(true,[1,5,12],some 13),(false,[14,15,16,17,18,19],some 20)] ?_;refine⟨λ_=>True,trivial,λ_ _=>trivial,?_⟩;simp only[dv,Qyq,Xqq,Qyx,Qyz,Xqz,Xqx]
 repeat(go_big_quiet_step(fail))
 refine Qqz ?_;refine⟨λw'=>∃p:Regrown,w'=grow (redrawn wr p.d) p.os,Qqx (brf.drew),λh=>(by cases h),?_⟩;simp only[dv,Qyq,Xqq,Qyx,Qyz,Xqz,Xqx]
 repeat(go_big_quiet_step(fail))
 refine Qqz ?_;clear bi bq ba bj bl a2 bf bt bk a0 p0 p1 p2 p3 p4 p5 p6 p7 d0 d1 l1 pm;have aq:Below wr.heap.size wr wr.drew:=brf.drew
 generalize wr.drew=wj at *
 have L:Hid (D6 p f A B r v b g q G t wj):=s.out.below aq;have ap:Hid (p.At wj):=HP.out wj L.out.cut.bel;clear aq s;refine kq 13 rfl ?_;go_wp2_with fail;refine(Kc p t i j H b wj ap.out L.out.cut.own.at).mono ?_;rintro e w8 ⟨x,rfl,a3,am,Y,ao⟩;have HT:Hid (tq p f b q i (j+1) x):=ac.out x (am.1 P.out);have bc:Hid (ai A w8 x):=(Y P.out).mono L.out.cut.le;have D:Hid (D6 p f A B r v b g q G t w8):=L.out.below ao;clear a3 am Y ao ac L ap P
 generalize Bl p t i j H b=LL at *
 generalize ew p t i j H b=EE at *
 simp only[St.val];go_wp2_with fail;refine⟨λ_=>True,trivial,λ_ _=>trivial,?_⟩;simp only[dv,Qyq,Xqq,Qyx,Qyz,Xqz,Xqx]
 repeat(go_big_quiet_step(fail))
 refine Qqz ?_;have m:=D.out.cut.box;have zl:=m.lt;have b8:=m.frozen 0;have cg:=m.k 0;have b6:=m.frozen 1;have zc1:=m.k 1;have b7:=m.frozen 2;have zc2:=m.k 2;have ca:=m.frozen 3;have zc3:=m.k 3;have ch:=m.frozen 4;have zc4:=m.k 4;have cf:=m.frozen 5;have zc5:=m.k 5;have cd:=m.frozen 6;have b9:=m.k 6;clear m;refine kq 20 rfl ?_;go_wp2_with fail;have S:Hid (D6 p f A B r v b g q G x (set7 w8 B (.slice x.on.a x.on.n x.on.c) (.slice x.os.a x.os.n x.os.c) (.slice x.hs.a x.hs.n x.hs.c) (.slice x.ms.a x.ms.n x.ms.c) (.slice x.si.a x.si.n x.si.c) (.slice x.so.a x.so.n x.so.c) (.slice x.sf.a x.sf.n x.sf.c))):=⟨ai.cut7 D.out.cut D.out.own0,D.out.cut.newState bc.out,D.out.plan.cut7 (Blk.ne2 D.out.plan D.out.cut.box (by decide)) _ _ _ _ _ _ _⟩;unfold set7 at S;refine NoPanic.normal ?_;go_wp2_with fail;go_roundw
 case rel=>exact⟨j+1,x,by omega,by go_num,S,HT⟩
 case measure=>simp[intOf];omega
theorem Hu{p:Pl}{s:St}{bin good seen:Int}(h:¬la p s bin good=0):fc p s bin good seen=la p s bin good:=by
 unfold la at h ⊢;unfold fc;by_cases a:ag p s=0
 .rw[if_pos a] at h ⊢;rw[if_pos a];cases b:(inB bin 0 ((p.nb:Int)-1)&&inB good 0 ((p.ns:Int)-1))
  .rfl
  rw[b] at h;exact absurd rfl h
 rw[if_neg a,if_neg a]
theorem Ys{p:Pl}{s:St}{bin good:Int}(h:la p s bin good=0):ag p s=0/\∃b g:Nat,bin=b/\good=g/\b<p.nb/\g<p.ns:=by
 unfold la at h;by_cases a:ag p s=0
 .rw[if_pos a] at h;cases c:(inB bin 0 ((p.nb:Int)-1)&&inB good 0 ((p.ns:Int)-1))
  .rw[c] at h;exact absurd h (by decide)
  simp only[Xxx] at c;have e:=aq c.1;have d:=aq c.2;exact⟨a,bin.toNat,good.toNat,by omega,by omega,by omega,by omega⟩
 rw[if_neg a] at h;exact absurd h a
theorem Qo{p:Pl}{s:St}{b g:Nat}{seen:Int}(h:ag p s=0)(a:inB seen 0 200=false):fc p s b g seen=3:=by
 unfold fc;rw[if_pos h,a,Bool.and_false]
 rfl
theorem Jp{p:Pl}{s:St}{b g:Nat}{seen:Int}(h:ag p s=0)(i:b<p.nb)(f:g<p.ns)(d:inB seen 0 200=true)(a:inB (s.sf.z g+(seen-(s.on.r b).z g)) (-1048576) 1048576=false):fc p s b g seen=2:=by
 unfold fc;have e:(Int.toNat (b:Int))=b:=rfl;have c:(Int.toNat (g:Int))=g:=rfl;rw[if_pos h,bq (by omega),bq (by omega),d,e,c,a]
 rfl
theorem Lt{p:Pl}{s:St}{b g:Nat}{seen:Int}(h:ag p s=0)(e:b<p.nb)(d:g<p.ns)(a:inB seen 0 200=true)(c:inB (s.sf.z g+(seen-(s.on.r b).z g)) (-1048576) 1048576=true):da p s b g seen :=
 ⟨ed h,e,d,(aq a).1,(aq a).2,aq c⟩
theorem ai.setFix{A:Nat}{w:World}{s:St}{G:Nat}(h:ai A w s)(b:s.sf.a=some ⟨G,0,none⟩)(g:Nat)(x:Int):ai A (w.setCell ⟨G,g,none⟩ (.int .i64 x)) (Go.Proofs.YtbcacebifpagpagGreat.setFix s g x):=by
 obtain⟨q,b1,b2,b3,b4,b5⟩:=h.sf;rw[b] at b1;simp only[Qkx,Qkz,and_true] at b1;subst b1;refine⟨?_,λi hi=>(h.rows i hi).apart (λe=>(h.ari i hi).2.2 (e.trans b.symm)) _ _,h.rapart,h.os.other b5 (by decide) (by decide) _ _,h.hs.other b5 (by decide) _ _,h.ms.other b5 (by decide) _ _,h.msr.set _ _ _,h.si.apart (λe=>h.aif (e.trans b.symm)) _ _,h.so.apart (λe=>h.aof (e.trans b.symm)) _ _,h.sf.set b _ _,h.aio,h.aif,h.aof,h.ari⟩;obtain⟨d,j,a1,k,f,c⟩:=h.on;exact⟨d,j,a1,k,f,c.other (a:=⟨G,g,none⟩) (Blk.ne2 c b5 (by decide)) _⟩
theorem da.formed0{p:Pl}{s:St}{b g:Nat}{seen:Int}(h:da p s b g seen):cv p (jn s b g seen):=by
 have f:=h.r.fm;have G:=h.right.fm;exact⟨G.sh,G.sh0,f.os4,f.ms8,f.lns,f.kind,f.line,f.hold,f.home,f.move,G.sin,G.son,G.sfn,G.sib,G.sob,G.sfb⟩
theorem da.formed1{p:Pl}{s:St}{b g:Nat}{seen:Int}(h:da p s b g seen):cv p (jn (withMoves s (cp (cq b g) s.ms (eu s b g seen))) b g seen):=by
 have f:=h.r.fm;have G:=h.right.fm;exact⟨G.sh,G.sh0,f.os4,G.ms8,f.lns,f.kind,f.line,f.hold,f.home,G.move,G.sin,G.son,G.sfn,G.sib,G.sob,G.sfb⟩
theorem da.qmax{p:Pl}{s:St}{b g:Nat}{seen:Int}(h:da p s b g seen)(o l:Int):et s b g (eu s b g seen) o l<=100000:=by
 have k:=(Am (b:=b) (g:=g) h.r h.miss0 o l).2;have d:=ro (z:=s.hs.z) o l s.hs.n λq a=>(cx (ca h.r.fm.hold q a)).2.2.2;have c:=h.r.fm.hs72;omega
theorem da.cutted{p:Pl}{s a:St}{b g:Nat}{seen v:Int}(h:da p s b g seen)(e:ae a (jn s b g seen))(f:max 0 v=tn (cq b g) (eu s b g seen) (pg a)):
  let x3:=withMoves a (cp (cq b g) a.ms (eu s b g seen))
  let Q:=ky (cd x3 b g) (max 0 v) (l6 x3)
  ae (withHolds (mq x3 Q) (cp (cd x3 b g) x3.hs (max 0 v))) (oe s b g seen)/\(∀o l,Q o l=et s b g (eu s b g seen) o l)/\cv p x3:=by
 have c:=Oe h.formed0 e b g (eu s b g seen);refine⟨?_,λo l => ?_,?_⟩
 .have d:withHolds (mq (withMoves a (cp (cq b g) a.ms (eu s b g seen))) (ky (cd a b g) (max 0 v) (l6 a))) (cp (cd a b g) a.hs (max 0 v))=i5 a b g (eu s b g seen):=by
   rw[f]
   rfl
  exact d▸c.1
 .have d:ky (cd a b g) (max 0 v) (l6 a) o l=et a b g (eu s b g seen) o l:=by
   rw[f]
   rfl
  exact d.trans (c.2 o l)
 refine ae.formed ?_ h.formed1;have k:cw (cp (cq b g) a.ms (eu s b g seen)).z (cp (cq b g) a.ms (eu s b g seen)).n=cw (cp (cq b g) s.ms (eu s b g seen)).z (cp (cq b g) s.ms (eu s b g seen)).n:=by
  rw[ld,ld,Im (h:=a.ms) (k:=s.ms) e.ms.1 e.ms.2]
 exact⟨e.on,e.os,e.hs,za k,e.si,e.so,e.sf⟩
theorem Vs(p:Pl)(s:St)(bin good seen:Int)(w:World)(hp:p.At w)(hs:s.At w):
  Calls prog 48 #[p.val,s.val,.int .i64 bin,.int .i64 good,.int .i64 seen] w λe H=>∃x:St,e = .returned (.tuple #[x.val,.int .i64 (fc p s bin good seen)])/\x.At H/\du (fc p s bin good seen) (lu p s bin.toNat good.toNat seen) x/\(fc p s bin good seen=0->ai w.heap.size H x)/\Below w.heap.size w H:=by
 obtain⟨K,hW,e3,X0,Z0⟩:=Ab w p s;have HC:=yu hp hs e3 X0 Z0;have HW:=hid hW;have leb:=hp.leb;have ca:=hp.capb;have les:=hp.les;have cg:=hp.caps;have capb:=ca;have caps:=cg;have fp:=Z0.lt;unfold maxLen at capb caps;have dt:Hid ((s.on.n<=s.on.c/\s.on.c<=maxLen)/\s.sf.n<=s.sf.c/\s.sf.c<=maxLen):=⟨⟨hs.on.le,hs.on.cap⟩,hs.sf.le,hs.sf.cap⟩;clear hW X0 Z0 hp hs;unfold Pl.val St.val;go_enter func48,ntmps48;go_wp2_with fail;rw[HW.out];obtain⟨X,A,q,D,J⟩:=HC.out K brf;refine(G9 p s bin good K A q).mono ?_;rintro e F ⟨rfl,hB⟩;clear X A q D J HW;obtain⟨⟨⟨l1,d0,d1⟩,l2,c0,c1,c2,c3,c4,c5,c6⟩,A,q,D,J⟩:=HC.out F hB;by_cases h0:la p s bin good=0;rotate_left
 .have Y:Hid (fc p s bin good seen=la p s bin good):=Hu h0;have eo:Hid (¬fc p s bin good seen=0):=by show ¬_;rw[Hu h0];exact h0
  have g0:(la p s bin good !=0)=true:=by simpa using h0
  clear h0
  generalize rj p s bin good=Q at *
  generalize la p s bin good=AE at *
  clear A q;obtain⟨zl,bc,bj,ba,zc1,bs,zc2,bh,zc3,bo,zc4,b3,zc5,b0,bd⟩:=z7 J;go_wp2_with fail;exact gz results48 J D (by omega) Y.out (λh=>eo.out (Y.out.trans h)) rfl rfl rfl
 obtain⟨b2,b,g,rfl,rfl,hb,hg⟩:=Ys h0;have H0:=hid b2;have HR:Hid (au p s):=ed b2;have ci:Hid (rj p s b g=ar s b g):=by show rj p s b g=_;unfold rj;rw[if_pos h0];rfl
 rw[ci.out,h0];clear h0 b2;have son:=HR.out.fm.sh.n;have b9:b<s.on.n:=by omega
 have dk:Hid ((s.on.r b).n=p.ns):=HR.out.fm.sh.len b b9;cases h2:inB seen 0 200
 .have Y:Hid (fc p s b g seen=3):=Qo H0.out h2
  generalize ar s b g=Q at *
  clear A q;obtain⟨zl,bc,bj,ba,zc1,bs,zc2,bh,zc3,bo,zc4,b3,zc5,b0,bd⟩:=z7 J;go_wp2_with(go_at_call 63;refine ah (ch _ _ _ _) ?_);exact gz results48 J D (by omega) Y.out (by decide) rfl rfl rfl
 have sb:=aq h2;obtain⟨⟨fu,ec⟩,fw,er⟩:=dt.out;unfold maxLen at ec er;obtain⟨bb,ob,bz,ek,e0,ac⟩:=q.on.rows b b9;have ds:g<(s.on.r b).n:=by rw[dk.out];exact hg
 obtain⟨bg,og,dc,d9,e1⟩:=ac.ints g ds;have rl:=ac.le;have rc:=ac.cap;unfold maxLen at rc;have sfn:g<s.sf.n:=by rw[HR.out.fm.sfn];exact hg
 obtain⟨bf,of,bt,dz,e2⟩:=q.sf.ints g sfn;have cm:=hid bz;have db:=hid bt;rw[bz] at c0;rw[dc] at e0;rw[bt] at c6;have q0:(0:Int)<=(b:Int):=by omega
 have q1:(b:Int)<(s.on.n:Int):=by omega
 have q2:(0:Int)<=(g:Int):=by omega
 have q3:(g:Int)<((s.on.r b).n:Int):=by omega
 have q4:(g:Int)<(s.sf.n:Int):=by omega
 have ef:=HR.out.fm.sh.num b b9 g hg;have sfb:=HR.out.fm.sfb g hg;have H2:=hid h2;clear bz dc bt ac son;cases h3:inB (s.sf.z g+(seen-(s.on.r b).z g)) (-1048576) 1048576
 .have Y:Hid (fc p s b g seen=2):=Jp H0.out hb hg H2.out h3
  generalize (s.on.r b).z g=m at *
  generalize s.sf.z g=P at *
  generalize ar s b g=Q at *
  clear A q;obtain⟨zl,bc,bj,ba,zc1,bs,zc2,bh,zc3,bo,zc4,b3,zc5,b0,bd⟩:=z7 J;go_wp2_with(go_at_call 63;refine ah (ch _ _ _ _) ?_);exact gz results48 J D (by omega) Y.out (by decide) rfl rfl rfl
 have E:Hid (da p s b g seen):=Lt H0.out hb hg H2.out h3;have Y:Hid (fc p s b g seen=0):=Ob E.out;have ck:Hid (Calls prog 90 #[s.val] F λe H=>∃V:St,e = .returned V.val/\ae V s/\ai F.heap.size H V/\Below F.heap.size F H):=nd p s F q HR.out.fm;obtain⟨m,a1⟩:∃m,(s.on.r b).z g=m:=⟨_,rfl⟩;obtain⟨P,b6⟩:∃P,s.sf.z g=P:=⟨_,rfl⟩;obtain⟨Q,aw⟩:∃Q,ar s b g=Q:=⟨_,rfl⟩;have HV:=qa3 a1 b6 aw;have fs:0<=Q/\Q<=m:=by
  have a:=(km (HR.out.goods g hg)).2 b hb;have c:=E.out.bound;rw[aw] at a c;rw[a1] at c;omega
 rw[a1] at e1 ef h3;rw[b6] at e2 sfb h3;rw[aw];clear A q D J a1 b6 aw ci;go_wp2_with(go_at_call 63;refine ah (ch _ _ _ _) ?_);rw[<-cm.out,<-db.out];refine Calls.mono ck.out ?_;rintro e d ⟨o,rfl,av,b7,be⟩;clear ck l1 d0 d1 l2 c0 c1 c2 c3 c4 c5 c6 ek e0 d9 e1 dz e2 h2 h3 cm db;have A1:K.heap.size<=F.heap.size:=hB.size;have A2:F.heap.size<=d.heap.size:=be.size;have dl:Hid (w.heap.size<=K.heap.size):=(HC.out _ brf).2.2.2.1.size;obtain⟨W5,c8,aj,K5,M5⟩:∃W,(d.alloc (.map #[] 0)).alloc (.cells #[.slice o.on.a o.on.n o.on.c,.slice o.os.a o.os.n o.os.c,.slice o.hs.a o.hs.n o.hs.c,.slice o.ms.a o.ms.n o.ms.c,.slice o.si.a o.si.n o.si.c,.slice o.so.a o.so.n o.so.c,.slice o.sf.a o.sf.n o.sf.c,.int .i64 (b:Int),.int .i64 (g:Int),.map (some d.heap.size)] 139)=W/\Below d.heap.size d W/\Blk W (d.heap.size+1) 139 10 (abk o b g d.heap.size)/\ki W d.heap.size (λ_ _=>0):=
  ⟨_,rfl,(brf.alloc nlr _).alloc (by simp) _,(Blk.mk' (by simp) rfl).congr (λj S=>by match j,S with|0,_=>rfl|1,_=>rfl|2,_=>rfl|3,_=>rfl|4,_=>rfl|5,_=>rfl|6,_=>rfl|7,_=>rfl|8,_=>rfl|9,_=>rfl),(ki.new d).below (brf.alloc nlr _)⟩
 have b1:Hid ((d.alloc (.map #[] 0)).alloc (.cells #[.slice o.on.a o.on.n o.on.c,.slice o.os.a o.os.n o.os.c,.slice o.hs.a o.hs.n o.hs.c,.slice o.ms.a o.ms.n o.ms.c,.slice o.si.a o.si.n o.si.c,.slice o.so.a o.so.n o.so.c,.slice o.sf.a o.sf.n o.sf.c,.int .i64 (b:Int),.int .i64 (g:Int),.map (some d.heap.size)] 139)=W5):=c8;have am:=hB.trans (be.mono hB.size);have ak:=am.trans (aj.mono am.size);have f:=qa6 b7 aj K5 M5 ak av;obtain⟨⟨⟨l1,d0,d1⟩,l2,c0,-⟩,A,q,-,-⟩:=HC.out W5 ak;have bp:Ej p s.on b g (seen-m)=0:=by
  have hu:ue p s.on b g=0:=by rw[En HR.out.fm.sh0,bq (by omega),bq (by omega)];rfl
  have e:=HV.out.1;have hi:inB (seen-m) (-((s.on.r b).z g)) (200-(s.on.r b).z g)=true:=bq (by omega);simp[Ej,hu,hi]
 have cs:Hid (Calls prog 91 #[p.val,s.on.val,.int .i64 b,.int .i64 g,.int .i64 (seen-m)] W5 λe H=>∃V:Sh,e = .returned (.tuple #[V.val,.int .i64 0])/\Yh W5.heap.size H V/\V.n=s.on.n/\(∀i,i<s.on.n->(V.r i).n=(s.on.r i).n/\∀j,j<(s.on.r i).n->(V.r i).z j=Ek s.on b g (seen-m) i j)/\Below W5.heap.size W5 H):=Lh p s.on b g (seen-m) W5 A q.on bp;rw[<-b1.out] at l1 d0 d1 l2 c0;clear c8 aj K5 M5 am ak b7 be hB av A q bp;have d3:∀(t:TypeId) (w:World),(Instr.makeMap t none).run prog w = .ok (.map (some w.heap.size)) (w.alloc (.map #[] 0)):=λ_ _=>rfl;simp only[St.val];go_wp2_with fail;rw[b1.out];clear l1 d0 d1 l2 c0 b1 d3;refine Calls.mono cs.out ?_;rintro e w6 ⟨u,rfl,hR,b5,cr,M⟩;clear cs;have T:Hid (ae (setFix ⟨u,o.os,o.hs,o.ms,o.si,o.so,o.sf⟩ g (P+(seen-m))) (jn s b g seen)):=by
  have e:=f.out.2.2.2.2.2;refine⟨⟨b5,λi hi => ?_⟩,e.os,e.hs,e.ms,e.si,e.so,⟨e.sf.1,λj S => ?_⟩⟩
  .have ea:i<s.on.n:=by rw[<-b5];exact hi
   have k:=cr i ea;refine⟨k.1.trans (rd s b g seen i).symm,λj S => ?_⟩;have br:j<(u.r i).n:=S;rw[sk];show(u.r i).z j=_;rw[k.2 j (by rw[<-k.1];exact br)];show(if i=b/\j=g then(s.on.r i).z j+(seen-m) else(s.on.r i).z j)=_;by_cases c:i=b/\j=g
   .have hv:=HV.out.1;rw[if_pos c,if_pos c,c.1,c.2,hv];omega
   rw[if_neg c,if_neg c]
  have br:j<o.sf.n:=S;have hv:=HV.out;show(if j=g then P+(seen-m) else o.sf.z j)=if j=g then s.sf.z g+(seen-(s.on.r b).z g) else s.sf.z j;rw[hv.1,hv.2.1,e.sf.2 j br]
 have ct:Hid (o.sf.z g=P):=(f.out.2.2.2.2.2.sf.2 g (by rw[f.out.2.2.2.2.2.sf.1];exact sfn)).trans HV.out.2.1;have cz:=f.out.2.1.size;have B6:=f.out.2.2.1.below M;have osn:g<o.sf.n:=by rw[f.out.2.2.2.2.2.sf.1];exact sfn
 have O4:=ai.below f.out.1 (f.out.2.1.trans (M.mono f.out.2.1.size));obtain⟨G,ga,gA,gl,en,gc,az,cv⟩:=O4.sf.cellAt osn;have em:G<d.heap.size:=by
  obtain⟨G',cw,-,fv,-⟩:=f.out.1.sf.cellAt osn;rw[ga] at cw;simp only[Qkx,Qkz,and_true] at cw;omega
 unfold maxLen at gc;rw[ct.out] at az;have ft:=hid ga;have eb:¬G=d.heap.size+1:=by omega
 have bu:¬d.heap.size+1=G:=by omega
 have y0:=B6.lt;have y1:=B6.frozen 0;have y2:=B6.k 0;have y3:w6.cell? ⟨d.heap.size+1,6,none⟩=some (.slice (some ⟨G,0,none⟩) o.sf.n o.sf.c):=by have h:=B6.k 6;rw[<-ga];exact h
 have gf:=cv g;have q5:(g:Int)<(o.sf.n:Int):=by omega
 have HI:Hid (gu F.heap.size (d.heap.size+1) d.heap.size K (setFix ⟨u,o.os,o.hs,o.ms,o.si,o.so,o.sf⟩ g (P+(seen-m))) b g (λ_ _=>0) ((w6.setCell ⟨d.heap.size+1,0,none⟩ (.slice u.a u.n u.c)).setCell ⟨G,g,none⟩ (.int .i64 (P+(seen-m))))):=by
  have m6:=f.out.2.2.2.1.below M;have bl:=f.out.2.2.2.2.1.trans (M.mono f.out.2.2.2.2.1.size);have o1:=ai.swap f.out.1 (f.out.2.1.trans (M.mono f.out.2.1.size)) hR cz (by omega);have o2:=ai.boxC o1 B6 0 (.slice u.a u.n u.c);have o3:=o2.setFix (G:=G) ga g (P+(seen-m));have k2:=B6.set 0 (.slice u.a u.n u.c);have sz:=M.size;obtain⟨Gq,eh,-,-,-,d4⟩:=o2.sf;have gq:G=Gq:=by have e:o.sf.a=some ⟨Gq,0,none⟩:=eh;rw[ga] at e;simpa using e
  subst gq;have m7:=m6.set (j:=0) (B6.noMap m6) (.slice u.a u.n u.c);refine⟨o3,(k2.other (a:=⟨G,g,none⟩) bu _).congr (λj S=>by match j,S with|0,_=>rfl|1,_=>rfl|2,_=>rfl|3,_=>rfl|4,_=>rfl|5,_=>rfl|6,_=>rfl|7,_=>rfl|8,_=>rfl|9,_=>rfl),m7.set (j:=g) (d4.noMap m7) _,(bl.setCell (p:=⟨d.heap.size+1,0,none⟩) (by show K.heap.size<=d.heap.size+1;omega) _).setCell (p:=⟨G,g,none⟩) (by show K.heap.size<=G;omega) _,by simp;omega,A1,by omega,A2⟩
 have c7:Hid (max 0 (-(seen-m)-Q)=eu s b g seen):=by
  have k:=E.out.bound;have v:=HV.out;rw[v.1,v.2.2] at k;show max 0 (-(seen-m)-Q)=_;unfold eu;omega
 generalize hX2:setFix ⟨u,o.os,o.hs,o.ms,o.si,o.so,o.sf⟩ g (P+(seen-m))=x2 at T HI
 clear hX2 cv B6 O4 hR b5 cr M ga gA f ct en;simp only[Sh.val];go_wp2_with fail;clear y0 y1 y2 y3 gf az gl em eb bu cz;obtain⟨wB,cx⟩:∃wB,((w6.setCell ⟨d.heap.size+1,0,none⟩ (.slice u.a u.n u.c)).setCell ⟨G,g,none⟩ (.int .i64 (P+(seen-m))))=wB:=⟨_,rfl⟩;rw[cx] at HI ⊢;clear cx;have f0:=E.out.formed0;have cj:Hid (Calls prog 107 #[.pointer (some ⟨d.heap.size+1,0,none⟩),.int .i64 (-(seen-m)-Q)] wB λe H=>∃v:Int,e = .returned (.int .i64 v)/\max 0 v=tn (cq b g) (eu s b g seen) (pg x2)/\(-100000<=v/\v<=100000)/\gu F.heap.size (d.heap.size+1) d.heap.size K (withMoves x2 (cp (cq b g) x2.ms (eu s b g seen))) b g (λ_ _=>0) H):=by
  have h:=Qq F.heap.size (d.heap.size+1) d.heap.size K x2 b g (λ_ _=>0) (-(seen-m)-Q) wB HI.out (λj S=>by
   rw[T.out.ms.2 j S];have:=f0.moveN j (by rw[<-T.out.ms.1];exact S);omega) (by rw[T.out.ms.1];exact f0.ms8) (by omega)
  rw[c7.out] at h;exact h
 clear f0 HI;refine Calls.mono cj.out ?_;rintro e w7 ⟨v,rfl,hv,cy,b8⟩;clear cj;have CT:=E.out.cutted T.out hv;obtain⟨co,dd,bk⟩:=CT;obtain⟨B,ax⟩:∃B,withMoves x2 (cp (cq b g) x2.ms (eu s b g seen))=B:=⟨_,rfl⟩;rw[ax] at b8 bk;have ab:ae (withHolds (mq B (ky (cd B b g) (max 0 v) (l6 B))) (cp (cd B b g) B.hs (max 0 v))) (oe s b g seen):=by rw[<-ax];exact co
 have U:∀o l,ky (cd B b g) (max 0 v) (l6 B) o l=et s b g (eu s b g seen) o l:=by rw[<-ax];exact dd
 clear co dd ax hv;have ay:=Qp p F.heap.size (d.heap.size+1) d.heap.size K B b g v w7 b8 bk cy (λo l=>by rw[U o l];exact E.out.qmax o l);obtain⟨QQ,cl⟩:∃QQ,ky (cd B b g) (max 0 v) (l6 B)=QQ:=⟨_,rfl⟩;rw[cl] at ay ab U;obtain⟨x4,c9⟩:∃x4,withHolds (mq B QQ) (cp (cd B b g) B.hs (max 0 v))=x4:=⟨_,rfl⟩;rw[c9] at ay ab;have b4:=hid ay;have L:=qa2 ab U;clear ay ab U bk cl c9 b8 cy T c7;go_wp2_with fail;refine Calls.mono b4.out ?_;rintro e w8 ⟨rfl,a2⟩;clear b4;have eq:=hid a2;obtain⟨⟨⟨l1,d0,d1⟩,-⟩,-⟩:=HC.out w8 a2.bel;have cu:Hid (Calls prog 108 #[.pointer (some ⟨d.heap.size+1,0,none⟩),p.val] w8 λe H=>e = .returned (.tuple #[])/\∃y,h9 p b (λi j=>QQ i j) (v7 x4) x4 x4.os.n y/\gu F.heap.size (d.heap.size+1) d.heap.size K y b g QQ H):=
  Jk p F.heap.size (d.heap.size+1) d.heap.size K x4 b g QQ w8 a2 (λwk hb=>(HC.out wk hb).2.1) (E.out.qin.same L.out.1 λi j _ _=>L.out.2 i j)
 clear a2 eq;go_wp2_with fail;clear l1 d0 d1;refine Calls.mono cu.out ?_;rintro e w9 ⟨rfl,y,hT,a0⟩;clear cu;have HY:Hid (ae y (lu p s b g seen)):=by
  refine h9.same E.out.qin (λ_ _=>rfl) (Nat.le_refl s.os.n) E.out.all ?_;have n4:x4.os.n=s.os.n:=L.out.1.os.1;rw[n4] at hT;refine h9.base (m':=v7 x4) L.out.1 (λ_ _=>rfl) (λi hi => ?_) (λi j _ _=>L.out.2 i j) (Nat.le_refl s.os.n) hT;exact(L.out.1.os.2 i (by rw[n4];exact hi)).2.1
 have d8:=hid a0;obtain⟨pm,p0,p1,p2,p3,p4,p5,p6,-,-,-⟩:=a0.boxed;obtain⟨-,-,-,D,J⟩:=HC.out w9 a0.bel;have HZ:=qa2 D J;obtain⟨zl,bc,bj,ba,zc1,bs,zc2,bh,zc3,bo,zc4,b3,zc5,b0,bd⟩:=z7 J;clear D J a0 hT L;go_wp2_with fail;have KZ:=s7b HZ.out.2 y;have de:=s7w (b:=w.heap.size+2) HZ.out.1 (by omega) y;have bn:=s7o d8.out.own HZ.out.2 y;unfold set7 at KZ de bn;obtain⟨ew,ev,es,d2,ex,e4,ep⟩:=cn KZ;refine Xzq (v := .tuple #[y.val,.int .i64 0]) (by simp[results,results48,go_sem,St.val,ew,ev,es,d2,ex,e4,ep]) rfl ?_;exact⟨y,by rw[Y.out];rfl,bn.at,⟨λ_=>HY.out,λh=>absurd Y.out h⟩,λ_=>bn.mono (Qzx dl.out A1),de⟩
theorem acn(p:Pl)(s:St)(x:Ax)(w:World)(hp:p.At w)(hs:s.At w)(hx:x.ls.At w)(o:x.k=1):
  Calls prog 18 #[p.val,s.val,x.val] w λe P=>∃y:St,e = .returned (.tuple #[y.val,.int .i64 (doE p s x)])/\y.At P/\du (doE p s x) (doT p s x) y/\(doE p s x=0->ai w.heap.size P y)/\Below w.heap.size w P:=by
 obtain⟨W0,G,HC,D,T,⟨⟨l1,d0,d1⟩,l2,c0,c1,c2,c3,c4,c5,c6⟩,⟨S,X,W,x3,x4,x5,Y⟩,zl,i,t,c,zc1,g,zc2,l,zc3,A,zc4,r,zc5,q,j⟩:=o7 p s x w hp hs hx;rw[<-G.out] at l1 d0 d1 l2 c0 c1 c2 c3 c4 c5 c6 S X W x3 x4 x5 Y zl i t c zc1 g zc2 l zc3 A zc4 r zc5 q j;clear hp hs hx;unfold Pl.val St.val Ax.val Ax.cells;go_enter func18,ntmps18;obtain⟨d,B⟩:∃d,x.k=d:=⟨_,rfl⟩;have HK:Hid (x.k=d):=B;rw[B] at S G ⊢;clear B;have u:d=1:=HK.out.symm.trans o;have f:Hid (doE p s x=gt p s x.a x.b x.n/\doT p s x=li s x.a.toNat x.b.toNat x.n):=by
  have o:x.k=1:=HK.out.trans u;refine⟨?_,?_⟩
  .show(if x.k=1 then _ else _)=_;rw[o]
   rfl
  show(if x.k=1 then _ else _)=_;rw[o]
  rfl
 have g1:(d==1)=true:=by rw[u];rfl
 clear u o;go_wp2_with fail;rw[G.out];clear l1 d0 d1 l2 c0 c1 c2 c3 c4 c5 c6 S X W x3 x4 x5 Y zl i t c zc1 g zc2 l zc3 A zc4 r zc5 q j;refine Calls.mono (Na p s x.a x.b x.n W0 D.out.1 D.out.2.1) ?_;rintro e V ⟨y,rfl,L,J,E,hB⟩;have F:Hid (y.At V/\du (doE p s x) (doT p s x) y/\(doE p s x=0->ai W0.heap.size V y)):=by
  refine⟨L,?_,?_⟩
  .rw[f.out.1,f.out.2];exact J
  rw[f.out.1];exact E
 have H:=hid f.out.1;rw[<-H.out];obtain⟨-,-,-,af,Q,-,-⟩:=HC.out V hB;clear f H L J E D G g1;obtain⟨U,m⟩:∃U,doE p s x=U:=⟨_,rfl⟩;have av:=hid m;rw[m];clear m;obtain⟨zl,i,t,c,zc1,g,zc2,l,zc3,A,zc4,r,zc5,q,j⟩:=z7 Q;simp only[St.val];go_wp2_with fail;have KZ:=s7b Q y;have M:=s7w (b:=w.heap.size+3) af (by omega) y;have z:=λh=>s7o (F.out.2.2 h) Q y;have K:=qd F.out.2.1 F.out.1 z;unfold set7 at KZ M K z;obtain⟨ap,ao,ak,au,ar,aw,aj⟩:=cn KZ;refine Xzq (v := .tuple #[y.val,.int .i64 U]) (by simp[results,results18,go_sem,St.val,ap,ao,ak,au,ar,aw,aj]) rfl ?_;exact⟨y,by rw[av.out];rfl,K,F.out.2.1,λh=>(z h).mono T.out,M⟩
theorem aco(p:Pl)(s:St)(x:Ax)(w:World)(hp:p.At w)(hs:s.At w)(hx:x.ls.At w)(o:x.k=2):
  Calls prog 18 #[p.val,s.val,x.val] w λe L=>∃y:St,e = .returned (.tuple #[y.val,.int .i64 (doE p s x)])/\y.At L/\du (doE p s x) (doT p s x) y/\(doE p s x=0->ai w.heap.size L y)/\Below w.heap.size w L:=by
 obtain⟨W0,E,HC,c,Q,⟨⟨l1,d0,d1⟩,l2,c0,c1,c2,c3,c4,c5,c6⟩,⟨P,V,U,x3,x4,x5,W⟩,zl,j,t,f,zc1,i,zc2,m,zc3,z,zc4,r,zc5,q,l⟩:=o7 p s x w hp hs hx;rw[<-E.out] at l1 d0 d1 l2 c0 c1 c2 c3 c4 c5 c6 P V U x3 x4 x5 W zl j t f zc1 i zc2 m zc3 z zc4 r zc5 q l;clear hp hs hx;unfold Pl.val St.val Ax.val Ax.cells;go_enter func18,ntmps18;obtain⟨d,A⟩:∃d,x.k=d:=⟨_,rfl⟩;have X:Hid (x.k=d):=A;rw[A] at P E ⊢;clear A;have a:d=2:=X.out.symm.trans o;have g:Hid (doE p s x=gp p s x.ls/\doT p s x=kj s x.ls):=by
  have o:x.k=2:=X.out.trans a;refine⟨?_,?_⟩
  .show(if x.k=1 then _ else _)=_;rw[o]
   rfl
  show(if x.k=1 then _ else _)=_;rw[o]
  rfl
 have g1:(d==1)=false:=by rw[a];rfl
 have g2:(d==2)=true:=by rw[a];rfl
 clear a o;go_wp2_with fail;rw[E.out];clear l1 d0 d1 l2 c0 c1 c2 c3 c4 c5 c6 P V U x3 x4 x5 W zl j t f zc1 i zc2 m zc3 z zc4 r zc5 q l;refine Calls.mono (P3 p s x.ls W0 c.out.1 c.out.2.1 c.out.2.2) ?_;rintro e T ⟨y,rfl,J,G,B,hB⟩;have D:Hid (y.At T/\du (doE p s x) (doT p s x) y/\(doE p s x=0->ai W0.heap.size T y)):=by
  refine⟨J,?_,?_⟩
  .rw[g.out.1,g.out.2];exact G
  rw[g.out.1];exact B
 have F:=hid g.out.1;rw[<-F.out];obtain⟨-,-,-,ad,M,-,-⟩:=HC.out T hB;clear g F J G B c E g1 g2;obtain⟨S,n⟩:∃S,doE p s x=S:=⟨_,rfl⟩;have ar:=hid n;rw[n];clear n;obtain⟨zl,j,t,f,zc1,i,zc2,m,zc3,z,zc4,r,zc5,q,l⟩:=z7 M;simp only[St.val];go_wp2_with fail;have Y:=s7b M y;have K:=s7w (b:=w.heap.size+3) ad (by omega) y;have u:=λh=>s7o (D.out.2.2 h) M y;have H:=qd D.out.2.1 D.out.1 u;unfold set7 at Y K H u;obtain⟨an,am,ah,aq,ap,au,ag⟩:=cn Y;refine Xzq (v := .tuple #[y.val,.int .i64 S]) (by simp[results,results18,go_sem,St.val,an,am,ah,aq,ap,au,ag]) rfl ?_;exact⟨y,by rw[ar.out];rfl,H,D.out.2.1,λh=>(u h).mono Q.out,K⟩
theorem acp(p:Pl)(s:St)(x:Ax)(w:World)(hp:p.At w)(hs:s.At w)(hx:x.ls.At w)(n:x.k=3):
  Calls prog 18 #[p.val,s.val,x.val] w λe L=>∃y:St,e = .returned (.tuple #[y.val,.int .i64 (doE p s x)])/\y.At L/\du (doE p s x) (doT p s x) y/\(doE p s x=0->ai w.heap.size L y)/\Below w.heap.size w L:=by
 obtain⟨W0,E,HC,A,Q,⟨⟨l1,d0,d1⟩,l2,c0,c1,c2,c3,c4,c5,c6⟩,⟨P,V,U,x3,x4,x5,W⟩,zl,i,r,d,zc1,g,zc2,l,zc3,u,zc4,q,zc5,o,j⟩:=o7 p s x w hp hs hx;rw[<-E.out] at l1 d0 d1 l2 c0 c1 c2 c3 c4 c5 c6 P V U x3 x4 x5 W zl i r d zc1 g zc2 l zc3 u zc4 q zc5 o j;clear hp hs hx;unfold Pl.val St.val Ax.val Ax.cells;go_enter func18,ntmps18;obtain⟨c,z⟩:∃c,x.k=c:=⟨_,rfl⟩;have X:Hid (x.k=c):=z;rw[z] at P E ⊢;clear z;have a:c=3:=X.out.symm.trans n;have f:Hid (doE p s x=ag p s/\doT p s x=Em p s):=by
  have n:x.k=3:=X.out.trans a;refine⟨?_,?_⟩
  .show(if x.k=1 then _ else _)=_;rw[n]
   rfl
  show(if x.k=1 then _ else _)=_;rw[n]
  rfl
 have g1:(c==1)=false:=by rw[a];rfl
 have g2:(c==2)=false:=by rw[a];rfl
 have g3:(c==3)=true:=by rw[a];rfl
 clear a n;go_wp2_with fail;rw[E.out];clear l1 d0 d1 l2 c0 c1 c2 c3 c4 c5 c6 P V U x3 x4 x5 W zl i r d zc1 g zc2 l zc3 u zc4 q zc5 o j;refine Calls.mono (R5 p s  W0 A.out.1 A.out.2.1) ?_;rintro e T ⟨y,rfl,J,G,B,hB⟩;have D:Hid (y.At T/\du (doE p s x) (doT p s x) y/\(doE p s x=0->ai W0.heap.size T y)):=by
  refine⟨J,?_,?_⟩
  .rw[f.out.1,f.out.2];exact G.act
  rw[f.out.1];exact B
 have F:=hid f.out.1;rw[<-F.out];obtain⟨-,-,-,ad,M,-,-⟩:=HC.out T hB;clear f F J G B A E g1 g2 g3;obtain⟨S,m⟩:∃S,doE p s x=S:=⟨_,rfl⟩;have au:=hid m;rw[m];clear m;obtain⟨zl,i,r,d,zc1,g,zc2,l,zc3,u,zc4,q,zc5,o,j⟩:=z7 M;simp only[St.val];go_wp2_with fail;have Y:=s7b M y;have K:=s7w (b:=w.heap.size+3) ad (by omega) y;have t:=λh=>s7o (D.out.2.2 h) M y;have H:=qd D.out.2.1 D.out.1 t;unfold set7 at Y K H t;obtain⟨ao,an,aj,ar,aq,av,ah⟩:=cn Y;refine Xzq (v := .tuple #[y.val,.int .i64 S]) (by simp[results,results18,go_sem,St.val,ao,an,aj,ar,aq,av,ah]) rfl ?_;exact⟨y,by rw[au.out];rfl,H,D.out.2.1,λh=>(t h).mono Q.out,K⟩
theorem acq(p:Pl)(s:St)(x:Ax)(w:World)(hp:p.At w)(hs:s.At w)(hx:x.ls.At w)(o:x.k=4):
  Calls prog 18 #[p.val,s.val,x.val] w λe M=>∃y:St,e = .returned (.tuple #[y.val,.int .i64 (doE p s x)])/\y.At M/\du (doE p s x) (doT p s x) y/\(doE p s x=0->ai w.heap.size M y)/\Below w.heap.size w M:=by
 obtain⟨W0,F,HC,B,S,⟨⟨l1,d0,d1⟩,l2,c0,c1,c2,c3,c4,c5,c6⟩,⟨Q,W,V,x3,x4,x5,X⟩,zl,j,t,f,zc1,i,zc2,m,zc3,z,zc4,r,zc5,q,l⟩:=o7 p s x w hp hs hx;rw[<-F.out] at l1 d0 d1 l2 c0 c1 c2 c3 c4 c5 c6 Q W V x3 x4 x5 X zl j t f zc1 i zc2 m zc3 z zc4 r zc5 q l;clear hp hs hx;unfold Pl.val St.val Ax.val Ax.cells;go_enter func18,ntmps18;obtain⟨d,A⟩:∃d,x.k=d:=⟨_,rfl⟩;have Y:Hid (x.k=d):=A;rw[A] at Q F ⊢;clear A;have c:d=4:=Y.out.symm.trans o;have g:Hid (doE p s x=fq p s x.a/\doT p s x=dr s x.a.toNat):=by
  have o:x.k=4:=Y.out.trans c;refine⟨?_,?_⟩
  .show(if x.k=1 then _ else _)=_;rw[o]
   rfl
  show(if x.k=1 then _ else _)=_;rw[o]
  rfl
 have g1:(d==1)=false:=by rw[c];rfl
 have g2:(d==2)=false:=by rw[c];rfl
 have g3:(d==3)=false:=by rw[c];rfl
 have g4:(d==4)=true:=by rw[c];rfl
 clear c o;go_wp2_with fail;rw[F.out];clear l1 d0 d1 l2 c0 c1 c2 c3 c4 c5 c6 Q W V x3 x4 x5 X zl j t f zc1 i zc2 m zc3 z zc4 r zc5 q l;refine Calls.mono (Tn p s x.a W0 B.out.1 B.out.2.1) ?_;rintro e U ⟨y,rfl,K,H,D,hB⟩;have E:Hid (y.At U/\du (doE p s x) (doT p s x) y/\(doE p s x=0->ai W0.heap.size U y)):=by
  refine⟨K,?_,?_⟩
  .rw[g.out.1,g.out.2];exact H
  rw[g.out.1];exact D
 have G:=hid g.out.1;rw[<-G.out];obtain⟨-,-,-,ae,P,-,-⟩:=HC.out U hB;clear g G K H D B F g1 g2 g3 g4;obtain⟨T,n⟩:∃T,doE p s x=T:=⟨_,rfl⟩;have au:=hid n;rw[n];clear n;obtain⟨zl,j,t,f,zc1,i,zc2,m,zc3,z,zc4,r,zc5,q,l⟩:=z7 P;simp only[St.val];go_wp2_with fail;have KZ:=s7b P y;have L:=s7w (b:=w.heap.size+3) ae (by omega) y;have u:=λh=>s7o (E.out.2.2 h) P y;have J:=qd E.out.2.1 E.out.1 u;unfold set7 at KZ L J u;obtain⟨ao,an,aj,ar,aq,av,ah⟩:=cn KZ;refine Xzq (v := .tuple #[y.val,.int .i64 T]) (by simp[results,results18,go_sem,St.val,ao,an,aj,ar,aq,av,ah]) rfl ?_;exact⟨y,by rw[au.out];rfl,J,E.out.2.1,λh=>(u h).mono S.out,L⟩
theorem acr(p:Pl)(s:St)(x:Ax)(w:World)(hp:p.At w)(hs:s.At w)(hx:x.ls.At w)(r:x.k=5):
  Calls prog 18 #[p.val,s.val,x.val] w λe Q=>∃y:St,e = .returned (.tuple #[y.val,.int .i64 (doE p s x)])/\y.At Q/\du (doE p s x) (doT p s x) y/\(doE p s x=0->ai w.heap.size Q y)/\Below w.heap.size w Q:=by
 obtain⟨W0,H,HC,E,U,⟨⟨l1,d0,d1⟩,l2,c0,c1,c2,c3,c4,c5,c6⟩,⟨T,Y,X,x3,x4,x5,x6⟩,zl,l,z,g,zc1,j,zc2,o,zc3,B,zc4,u,zc5,t,m⟩:=o7 p s x w hp hs hx;rw[<-H.out] at l1 d0 d1 l2 c0 c1 c2 c3 c4 c5 c6 T Y X x3 x4 x5 x6 zl l z g zc1 j zc2 o zc3 B zc4 u zc5 t m;clear hp hs hx;unfold Pl.val St.val Ax.val Ax.cells;go_enter func18,ntmps18;obtain⟨f,D⟩:∃f,x.k=f:=⟨_,rfl⟩;have HK:Hid (x.k=f):=D;rw[D] at T H ⊢;clear D;have d:f=5:=HK.out.symm.trans r;have i:Hid (doE p s x=ir p s x.a x.b x.c x.n/\doT p s x=pi p s x.a.toNat x.b.toNat x.c.toNat x.n):=by
  have r:x.k=5:=HK.out.trans d;refine⟨?_,?_⟩
  .show(if x.k=1 then _ else _)=_;rw[r]
   rfl
  show(if x.k=1 then _ else _)=_;rw[r]
  rfl
 have g1:(f==1)=false:=by rw[d];rfl
 have g2:(f==2)=false:=by rw[d];rfl
 have g3:(f==3)=false:=by rw[d];rfl
 have g4:(f==4)=false:=by rw[d];rfl
 have g5:(f==5)=true:=by rw[d];rfl
 clear d r;go_wp2_with fail;rw[H.out];clear l1 d0 d1 l2 c0 c1 c2 c3 c4 c5 c6 T Y X x3 x4 x5 x6 zl l z g zc1 j zc2 o zc3 B zc4 u zc5 t m;refine Calls.mono (Yi p s x.a x.b x.c x.n W0 E.out.1 E.out.2.1) ?_;rintro e W ⟨y,rfl,M,K,F,hB⟩;have G:Hid (y.At W/\du (doE p s x) (doT p s x) y/\(doE p s x=0->ai W0.heap.size W y)):=by
  refine⟨M,?_,?_⟩
  .rw[i.out.1,i.out.2];exact K
  rw[i.out.1];exact F
 have J:=hid i.out.1;rw[<-J.out];obtain⟨-,-,-,ag,S,-,-⟩:=HC.out W hB;clear i J M K F E H g1 g2 g3 g4 g5;obtain⟨V,q⟩:∃V,doE p s x=V:=⟨_,rfl⟩;have aw:=hid q;rw[q];clear q;obtain⟨zl,l,z,g,zc1,j,zc2,o,zc3,B,zc4,u,zc5,t,m⟩:=z7 S;simp only[St.val];go_wp2_with fail;have KZ:=s7b S y;have P:=s7w (b:=w.heap.size+3) ag (by omega) y;have A:=λh=>s7o (G.out.2.2 h) S y;have L:=qd G.out.2.1 G.out.1 A;unfold set7 at KZ P L A;obtain⟨aq,ap,al,av,au,ax,ak⟩:=cn KZ;refine Xzq (v := .tuple #[y.val,.int .i64 V]) (by simp[results,results18,go_sem,St.val,aq,ap,al,av,au,ax,ak]) rfl ?_;exact⟨y,by rw[aw.out];rfl,L,G.out.2.1,λh=>(A h).mono U.out,P⟩
theorem acs(p:Pl)(s:St)(x:Ax)(w:World)(hp:p.At w)(hs:s.At w)(hx:x.ls.At w)(n:x.k=6):
  Calls prog 18 #[p.val,s.val,x.val] w λe L=>∃y:St,e = .returned (.tuple #[y.val,.int .i64 (doE p s x)])/\y.At L/\du (doE p s x) (doT p s x) y/\(doE p s x=0->ai w.heap.size L y)/\Below w.heap.size w L:=by
 obtain⟨W0,E,HC,A,Q,⟨⟨l1,d0,d1⟩,l2,c0,c1,c2,c3,c4,c5,c6⟩,⟨P,V,U,x3,x4,x5,W⟩,zl,i,r,d,zc1,g,zc2,l,zc3,u,zc4,q,zc5,o,j⟩:=o7 p s x w hp hs hx;rw[<-E.out] at l1 d0 d1 l2 c0 c1 c2 c3 c4 c5 c6 P V U x3 x4 x5 W zl i r d zc1 g zc2 l zc3 u zc4 q zc5 o j;clear hp hs hx;unfold Pl.val St.val Ax.val Ax.cells;go_enter func18,ntmps18;obtain⟨c,z⟩:∃c,x.k=c:=⟨_,rfl⟩;have X:Hid (x.k=c):=z;rw[z] at P E ⊢;clear z;have a:c=6:=X.out.symm.trans n;have f:Hid (doE p s x=ag p s/\doT p s x=yp p s):=by
  have n:x.k=6:=X.out.trans a;refine⟨?_,?_⟩
  .show(if x.k=1 then _ else _)=_;rw[n]
   rfl
  show(if x.k=1 then _ else _)=_;rw[n]
  rfl
 have g1:(c==1)=false:=by rw[a];rfl
 have g2:(c==2)=false:=by rw[a];rfl
 have g3:(c==3)=false:=by rw[a];rfl
 have g4:(c==4)=false:=by rw[a];rfl
 have g5:(c==5)=false:=by rw[a];rfl
 have g6:(c==6)=true:=by rw[a];rfl
 clear a n;go_wp2_with fail;rw[E.out];clear l1 d0 d1 l2 c0 c1 c2 c3 c4 c5 c6 P V U x3 x4 x5 W zl i r d zc1 g zc2 l zc3 u zc4 q zc5 o j;refine Calls.mono (Yd p s  W0 A.out.1 A.out.2.1) ?_;rintro e T ⟨y,rfl,J,G,B,hB⟩;have D:Hid (y.At T/\du (doE p s x) (doT p s x) y/\(doE p s x=0->ai W0.heap.size T y)):=by
  refine⟨J,?_,?_⟩
  .rw[f.out.1,f.out.2];exact G
  rw[f.out.1];exact B
 have F:=hid f.out.1;rw[<-F.out];obtain⟨-,-,-,ad,M,-,-⟩:=HC.out T hB;clear f F J G B A E g1 g2 g3 g4 g5 g6;obtain⟨S,m⟩:∃S,doE p s x=S:=⟨_,rfl⟩;have au:=hid m;rw[m];clear m;obtain⟨zl,i,r,d,zc1,g,zc2,l,zc3,u,zc4,q,zc5,o,j⟩:=z7 M;simp only[St.val];go_wp2_with fail;have Y:=s7b M y;have K:=s7w (b:=w.heap.size+3) ad (by omega) y;have t:=λh=>s7o (D.out.2.2 h) M y;have H:=qd D.out.2.1 D.out.1 t;unfold set7 at Y K H t;obtain⟨ao,an,aj,ar,aq,av,ah⟩:=cn Y;refine Xzq (v := .tuple #[y.val,.int .i64 S]) (by simp[results,results18,go_sem,St.val,ao,an,aj,ar,aq,av,ah]) rfl ?_;exact⟨y,by rw[au.out];rfl,H,D.out.2.1,λh=>(t h).mono Q.out,K⟩
theorem acu(p:Pl)(s:St)(x:Ax)(w:World)(hp:p.At w)(hs:s.At w)(hx:x.ls.At w)(q:x.k=7):
  Calls prog 18 #[p.val,s.val,x.val] w λe P=>∃y:St,e = .returned (.tuple #[y.val,.int .i64 (doE p s x)])/\y.At P/\du (doE p s x) (doT p s x) y/\(doE p s x=0->ai w.heap.size P y)/\Below w.heap.size w P:=by
 obtain⟨W0,G,HC,D,T,⟨⟨l1,d0,d1⟩,l2,c0,c1,c2,c3,c4,c5,c6⟩,⟨S,X,W,x3,x4,x5,Y⟩,zl,j,u,f,zc1,i,zc2,m,zc3,A,zc4,t,zc5,r,l⟩:=o7 p s x w hp hs hx;rw[<-G.out] at l1 d0 d1 l2 c0 c1 c2 c3 c4 c5 c6 S X W x3 x4 x5 Y zl j u f zc1 i zc2 m zc3 A zc4 t zc5 r l;clear hp hs hx;unfold Pl.val St.val Ax.val Ax.cells;go_enter func18,ntmps18;obtain⟨d,B⟩:∃d,x.k=d:=⟨_,rfl⟩;have HK:Hid (x.k=d):=B;rw[B] at S G ⊢;clear B;have c:d=7:=HK.out.symm.trans q;have g:Hid (doE p s x=fk p s x.a x.n/\doT p s x=jd s x.a.toNat x.n):=by
  have q:x.k=7:=HK.out.trans c;refine⟨?_,?_⟩
  .show(if x.k=1 then _ else _)=_;rw[q]
   rfl
  show(if x.k=1 then _ else _)=_;rw[q]
  rfl
 have g1:(d==1)=false:=by rw[c];rfl
 have g2:(d==2)=false:=by rw[c];rfl
 have g3:(d==3)=false:=by rw[c];rfl
 have g4:(d==4)=false:=by rw[c];rfl
 have g5:(d==5)=false:=by rw[c];rfl
 have g6:(d==6)=false:=by rw[c];rfl
 have g7:(d==7)=true:=by rw[c];rfl
 clear c q;go_wp2_with fail;rw[G.out];clear l1 d0 d1 l2 c0 c1 c2 c3 c4 c5 c6 S X W x3 x4 x5 Y zl j u f zc1 i zc2 m zc3 A zc4 t zc5 r l;refine Calls.mono (Vy p s x.a x.n W0 D.out.1 D.out.2.1) ?_;rintro e V ⟨y,rfl,L,J,E,hB⟩;have F:Hid (y.At V/\du (doE p s x) (doT p s x) y/\(doE p s x=0->ai W0.heap.size V y)):=by
  refine⟨L,?_,?_⟩
  .rw[g.out.1,g.out.2];exact J
  rw[g.out.1];exact E
 have H:=hid g.out.1;rw[<-H.out];obtain⟨-,-,-,af,Q,-,-⟩:=HC.out V hB;clear g H L J E D G g1 g2 g3 g4 g5 g6 g7;obtain⟨U,o⟩:∃U,doE p s x=U:=⟨_,rfl⟩;have av:=hid o;rw[o];clear o;obtain⟨zl,j,u,f,zc1,i,zc2,m,zc3,A,zc4,t,zc5,r,l⟩:=z7 Q;simp only[St.val];go_wp2_with fail;have KZ:=s7b Q y;have M:=s7w (b:=w.heap.size+3) af (by omega) y;have z:=λh=>s7o (F.out.2.2 h) Q y;have K:=qd F.out.2.1 F.out.1 z;unfold set7 at KZ M K z;obtain⟨ap,ao,ak,au,ar,aw,aj⟩:=cn KZ;refine Xzq (v := .tuple #[y.val,.int .i64 U]) (by simp[results,results18,go_sem,St.val,ap,ao,ak,au,ar,aw,aj]) rfl ?_;exact⟨y,by rw[av.out];rfl,K,F.out.2.1,λh=>(z h).mono T.out,M⟩
theorem acv(p:Pl)(s:St)(x:Ax)(w:World)(hp:p.At w)(hs:s.At w)(hx:x.ls.At w)(q:x.k=8):
  Calls prog 18 #[p.val,s.val,x.val] w λe P=>∃y:St,e = .returned (.tuple #[y.val,.int .i64 (doE p s x)])/\y.At P/\du (doE p s x) (doT p s x) y/\(doE p s x=0->ai w.heap.size P y)/\Below w.heap.size w P:=by
 obtain⟨W0,G,HC,D,T,⟨⟨l1,d0,d1⟩,l2,c0,c1,c2,c3,c4,c5,c6⟩,⟨S,X,W,x3,x4,x5,Y⟩,zl,j,u,f,zc1,i,zc2,m,zc3,A,zc4,t,zc5,r,l⟩:=o7 p s x w hp hs hx;rw[<-G.out] at l1 d0 d1 l2 c0 c1 c2 c3 c4 c5 c6 S X W x3 x4 x5 Y zl j u f zc1 i zc2 m zc3 A zc4 t zc5 r l;clear hp hs hx;unfold Pl.val St.val Ax.val Ax.cells;go_enter func18,ntmps18;obtain⟨d,B⟩:∃d,x.k=d:=⟨_,rfl⟩;have HK:Hid (x.k=d):=B;rw[B] at S G ⊢;clear B;have c:d=8:=HK.out.symm.trans q;have g:Hid (doE p s x=fc p s x.a x.b x.n/\doT p s x=lu p s x.a.toNat x.b.toNat x.n):=by
  have q:x.k=8:=HK.out.trans c;refine⟨?_,?_⟩
  .show(if x.k=1 then _ else _)=_;rw[q]
   rfl
  show(if x.k=1 then _ else _)=_;rw[q]
  rfl
 have g1:(d==1)=false:=by rw[c];rfl
 have g2:(d==2)=false:=by rw[c];rfl
 have g3:(d==3)=false:=by rw[c];rfl
 have g4:(d==4)=false:=by rw[c];rfl
 have g5:(d==5)=false:=by rw[c];rfl
 have g6:(d==6)=false:=by rw[c];rfl
 have g7:(d==7)=false:=by rw[c];rfl
 have g8:(d==8)=true:=by rw[c];rfl
 clear c q;go_wp2_with fail;rw[G.out];clear l1 d0 d1 l2 c0 c1 c2 c3 c4 c5 c6 S X W x3 x4 x5 Y zl j u f zc1 i zc2 m zc3 A zc4 t zc5 r l;refine Calls.mono (Vs p s x.a x.b x.n W0 D.out.1 D.out.2.1) ?_;rintro e V ⟨y,rfl,L,J,E,hB⟩;have F:Hid (y.At V/\du (doE p s x) (doT p s x) y/\(doE p s x=0->ai W0.heap.size V y)):=by
  refine⟨L,?_,?_⟩
  .rw[g.out.1,g.out.2];exact J
  rw[g.out.1];exact E
 have H:=hid g.out.1;rw[<-H.out];obtain⟨-,-,-,af,Q,-,-⟩:=HC.out V hB;clear g H L J E D G g1 g2 g3 g4 g5 g6 g7 g8;obtain⟨U,o⟩:∃U,doE p s x=U:=⟨_,rfl⟩;have av:=hid o;rw[o];clear o;obtain⟨zl,j,u,f,zc1,i,zc2,m,zc3,A,zc4,t,zc5,r,l⟩:=z7 Q;simp only[St.val];go_wp2_with fail;have KZ:=s7b Q y;have M:=s7w (b:=w.heap.size+3) af (by omega) y;have z:=λh=>s7o (F.out.2.2 h) Q y;have K:=qd F.out.2.1 F.out.1 z;unfold set7 at KZ M K z;obtain⟨ap,ao,ak,au,ar,aw,aj⟩:=cn KZ;refine Xzq (v := .tuple #[y.val,.int .i64 U]) (by simp[results,results18,go_sem,St.val,ap,ao,ak,au,ar,aw,aj]) rfl ?_;exact⟨y,by rw[av.out];rfl,K,F.out.2.1,λh=>(z h).mono T.out,M⟩
theorem acm(p:Pl)(s:St)(x:Ax)(w:World)(B:p.At w)(hs:s.At w)(hx:x.ls.At w)(M:¬x.k=1)(T:¬x.k=2)(F:¬x.k=3)(D:¬x.k=4)(Q:¬x.k=5)(J:¬x.k=6)(G:¬x.k=7)(P:¬x.k=8):
  Calls prog 18 #[p.val,s.val,x.val] w λe f=>∃y:St,e = .returned (.tuple #[y.val,.int .i64 (doE p s x)])/\y.At f/\du (doE p s x) (doT p s x) y/\(doE p s x=0->ai w.heap.size f y)/\Below w.heap.size w f:=by
 obtain⟨W0,r,HC,al,af,⟨⟨X,d0,d1⟩,l2,Y,c1,c2,c3,c4,c5,c6⟩,⟨L,V,x2,x3,x4,W,x6⟩,zl,u,E,t,zc1,K,zc2,A,zc3,H,zc4,U,zc5,S,z⟩:=o7 p s x w B hs hx;rw[<-r.out] at X d0 d1 l2 Y c1 c2 c3 c4 c5 c6 L V x2 x3 x4 W x6 zl u E t zc1 K zc2 A zc3 H zc4 U zc5 S z;clear B hs hx;unfold Pl.val St.val Ax.val Ax.cells;go_enter func18,ntmps18;obtain⟨a,d⟩:∃a,x.k=a:=⟨_,rfl⟩;have b:Hid (x.k=a):=d;rw[d] at L r ⊢;clear d;have g:¬a=1:=by rw[<-b.out];exact M
 have n2:¬a=2:=by rw[<-b.out];exact T
 have l:¬a=3:=by rw[<-b.out];exact F
 have j:¬a=4:=by rw[<-b.out];exact D
 have o:¬a=5:=by rw[<-b.out];exact Q
 have q:¬a=6:=by rw[<-b.out];exact J
 have i:¬a=7:=by rw[<-b.out];exact G
 have m:¬a=8:=by rw[<-b.out];exact P
 have n:Hid (doE p s x=8):=by
  show(if x.k=1 then _ else _)=_;rw[b.out,if_neg g,if_neg n2,if_neg l,if_neg j,if_neg o,if_neg q,if_neg i,if_neg m]
 have g1:(a==1)=false:=by simpa using g
 have g2:(a==2)=false:=by simpa using n2
 have g3:(a==3)=false:=by simpa using l
 have g4:(a==4)=false:=by simpa using j
 have g5:(a==5)=false:=by simpa using o
 have g6:(a==6)=false:=by simpa using q
 have g7:(a==7)=false:=by simpa using i
 have g8:(a==8)=false:=by simpa using m
 clear g n2 l j o q i m;have c:=(HC.out W0 brf).2.2.2.1;rw[<-r.out] at c;go_wp2_with fail;refine Xzq (v := .tuple #[l8.val,.int .i64 8]) (by simp[results,results18,go_sem,l8,St.val]) rfl ?_;exact⟨l8,by rw[n.out];rfl,vy _,⟨λh=>absurd h (by rw[n.out];decide),λ_=>⟨rfl,rfl,rfl,rfl,rfl,rfl,rfl⟩⟩,λh=>absurd h (by rw[n.out];decide),c⟩
theorem Lc(p:Pl)(s:St)(x:Ax)(w:World)(a:p.At w)(hs:s.At w)(hx:x.ls.At w):
  Calls prog 18 #[p.val,s.val,x.val] w λe b=>∃y:St,e = .returned (.tuple #[y.val,.int .i64 (doE p s x)])/\y.At b/\du (doE p s x) (doT p s x) y/\(doE p s x=0->ai w.heap.size b y)/\Below w.heap.size w b:=by
 by_cases f:x.k=1
 .exact acn p s x w a hs hx f
 by_cases g:x.k=2
 .exact aco p s x w a hs hx g
 by_cases c:x.k=3
 .exact acp p s x w a hs hx c
 by_cases l:x.k=4
 .exact acq p s x w a hs hx l
 by_cases d:x.k=5
 .exact acr p s x w a hs hx d
 by_cases j:x.k=6
 .exact acs p s x w a hs hx j
 by_cases h:x.k=7
 .exact acu p s x w a hs hx h
 by_cases i:x.k=8
 .exact acv p s x w a hs hx i
 exact acm p s x w a hs hx f g c l d j h i
def M8(A:Nat)(w w2:World):Prop:=∀g,A<=g->g<w.heap.size->w2.heap[g]?=w.heap[g]?
theorem Blk.high{A g n:Nat}{w a:World}{e:TypeId}{f:Nat->Value}(h:Blk w g e n f)(k:M8 A w a)(b:A<=g):Blk a g e n f:=h.same (k g b h.lt)
theorem ju.high{A:Nat}{w a:World}{r:Rw}(h:ju A w r)(k:M8 A w a):ju A a r:=by
 obtain⟨g,c,b,f,e,d⟩:=h;exact⟨g,c,b,f,e,d.high k b⟩
theorem cy.high{A:Nat}{e:TypeId}{w b:World}{s:Hs}(h:cy A e w s)(k:M8 A w b):cy A e b s:=by
 obtain⟨m,l,d,j⟩:=h;refine⟨m,l,d,λc => ?_⟩;obtain⟨g,f,a,i⟩:=j c;exact⟨g,f,a,i.high k a⟩
theorem fo.high{A:Nat}{w b:World}{e:TypeId}{size:Nat}{a:Option Addr}{c:Nat}(h:fo A w e size a c)(k:M8 A w b):fo A b e size a c:=by
 rcases h with h|⟨g,cur,i,f,d,hs⟩
 .exact Or.inl h
 exact Or.inr ⟨g,cur,i,f,(k g f (Qkq d).1).trans d,hs⟩
theorem j7.high{A:Nat}{w f:World}{s:Os}(h:j7 A w s)(k:M8 A w f):j7 A f s:=by
 refine⟨h.le,h.cap,λj => ?_,λi hi => ?_,h.apart,h.room.high k⟩
 .obtain⟨g,a,b,c⟩:=h.list j;exact⟨g,a,b,c.high k b⟩
 obtain⟨C,a,b,c,d,e⟩:=h.lines i hi;exact⟨C,a,b,c,d,e.high k b⟩
theorem ai.high{A:Nat}{w a:World}{s:St}(h:ai A w s)(k:M8 A w a):ai A a s:=by
 refine⟨?_,λi hi=>(h.rows i hi).high k,h.rapart,h.os.high k,h.hs.high k,h.ms.high k,h.msr.high k,h.si.high k,h.so.high k,h.sf.high k,h.aio,h.aif,h.aof,h.ari⟩;obtain⟨g,c,b,f,e,d⟩:=h.on;exact⟨g,c,b,f,e,d.high k b⟩
theorem ai.fr{A:Nat}{w:World}{s:St}(h:ai A w s):Fr A w s:=λ_ _ k=>(h.high k).at
theorem Fr.set7{n:Nat}{w:World}{s:St}(h:Fr n w s){b:Nat}(a:b<n)(g i f j e d c:Value):Fr n (Go.Proofs.YtbcacebifpagpagGreat.set7 w b g i f j e d c) s :=
 ((((((h.set a 0 g).set a 1 i).set a 2 f).set a 3 j).set a 4 e).set a 5 d).set a 6 c
theorem Sa{p:Pl}{s t:St}(a:zr p s)(b:zr p t):ae s t:=by
 obtain⟨a1,g,h,k,l,d,e,f⟩:=a;obtain⟨b1,b2,b3,b4,b5,b6,b7,b8⟩:=b;refine⟨⟨by omega,λi hi => ?_⟩,⟨by omega,λi hi=>absurd hi (by omega)⟩,⟨by omega,λj c=>absurd c (by omega)⟩,⟨by omega,λj c=>absurd c (by omega)⟩,⟨by omega,λj c => ?_⟩,⟨by omega,λj c => ?_⟩,⟨by omega,λj c => ?_⟩⟩
 .have x:=g i (by omega);have y:=b2 i (by omega);exact⟨by omega,λj c=>by rw[x.2 j (by omega),y.2 j (by omega)]⟩
 .rw[d.2 j (by omega),b6.2 j (by omega)]
 .rw[e.2 j (by omega),b7.2 j (by omega)]
 rw[f.2 j (by omega),b8.2 j (by omega)]
theorem X6(p:Pl)(w:World)(hp:p.At w):
  Calls prog 22 #[p.val] w λe w'=>∃s:St,e = .returned (.tuple #[s.val,.int .i64 (iy p)])/\Fr w.heap.size w' s/\aad p s/\Below w.heap.size w w':=by
 have capb:=hp.capb;have leb:=hp.leb;unfold maxLen at capb;obtain⟨W0,hW,ac,X0,Z0⟩:∃W,((w.alloc (.cells #[.slice p.ab p.nb p.cb,.slice p.sa p.ns p.cs] 25)).alloc (.cells #[.slice .none 0 0,.slice .none 0 0,.slice .none 0 0,.slice .none 0 0,.slice .none 0 0,.slice .none 0 0,.slice .none 0 0] 31))=W/\Below w.heap.size w W/\Blk W w.heap.size 25 2 (λj=>(#[.slice p.ab p.nb p.cb,.slice p.sa p.ns p.cs]:Array Value).getD j default)/\Blk W (w.heap.size+1) 31 7 (λ_ => .slice .none 0 0):=
  ⟨_,rfl,js _ _ _,(Blk.mk' rfl rfl).alloc _,(Blk.mk' (cur:=#[.slice .none 0 0,.slice .none 0 0,.slice .none 0 0,.slice .none 0 0,.slice .none 0 0,.slice .none 0 0,.slice .none 0 0]) (by simp) rfl).congr (λj q=>by match j,q with|0,_=>rfl|1,_=>rfl|2,_=>rfl|3,_=>rfl|4,_=>rfl|5,_=>rfl|6,_=>rfl)⟩
 have HW:Hid ((w.alloc (.cells #[.slice p.ab p.nb p.cb,.slice p.sa p.ns p.cs] 25)).alloc (.cells #[.slice .none 0 0,.slice .none 0 0,.slice .none 0 0,.slice .none 0 0,.slice .none 0 0,.slice .none 0 0,.slice .none 0 0] 31)=W0):=hW;clear hW;unfold Pl.val;go_enter func22,ntmps22;go_wp2_with fail;rw[HW.out];refine(yt p W0 (hp.below ac)).mono ?_;rintro e a ⟨rfl,A⟩;have u:=X0.below A;have Z1:=Z0.below A;have M:=ac.trans (A.mono ac.size);clear X0 Z0 A;by_cases L:iy p=0;rotate_left
 .obtain⟨zl,au,bc,ap,zc1,ar,zc2,a6,zc3,be,zc4,bb,zc5,a9,aw⟩:=z7 Z1;go_wp2_with fail;have H:=n7b Z1;have t:=n7w (b:=w.heap.size+1) M (by omega);unfold set7 at H t;obtain⟨c0,c1,c2,c3,c4,c5,c6⟩:=cn H;refine Xzq (v := .tuple #[l8.val,.int .i64 (iy p)]) (by simp[results,results22,go_sem,l8,St.val,c0,c1,c2,c3,c4,c5,c6]) rfl ?_;exact⟨l8,rfl,λbf _ _=>vy _,⟨λh=>absurd h L,λ_=>⟨rfl,rfl,rfl,rfl,rfl,rfl,rfl⟩⟩,t⟩
 have R:=Mp L;have c:=R.ns3;have bm:=R.nb6;have bp:=R.ns1;have H0:=hid L;rw[L];clear L R;obtain⟨i0,hi,a3,az,a0⟩:=info_parts abp;have d0:a.cell? ⟨w.heap.size,0,none⟩=some (.slice p.ab p.nb p.cb):=u.k 0;have l1:=u.lt;go_wp2_with(at_make;refine wpList_make_full _ rfl _ _ 26 rfl a.heap.size 23 i0 (.slice .none 0 0) 1 underlying26 hi a3 az .i64 .i64 _ _ p.nb rfl rfl rfl rfl (by rw[a0];omega) (by unfold maxLen;omega) nlr ?_;intro w2 aa y);obtain⟨g,c',hv,_,_,_,x⟩:=Blk.ofOwns aa (by simp);simp only[Value.slice.injEq,Qkx,Qkz,and_true] at hv;obtain⟨rfl,-,-⟩:=hv;rw[Nat.mul_one] at x;have aj:Below a.heap.size a w2:=(Below.refl _ a).grown y nlr (by intro k hk;cases hk);clear aa y d0;have eg:=enters_of func62 (by kernel_rfl) rfl
 go_loopw [21] (λi wk=>∃k:Nat,k<=p.nb/\i = .int .i64 k/\(∃(G:Nat->Nat),Blk wk a.heap.size 23 p.nb (λi=>if i<k then .slice (some ⟨G i,0,none⟩) p.ns p.ns else .slice none 0 0)/\(∀i,i<k->a.heap.size<G i/\Blk wk (G i) 3 p.ns (λ_ => .int .i64 0)))/\Below a.heap.size a wk) (λi _=>p.nb-(intOf i).toNat)
 case atStart=>exact⟨0,Qxz _,rfl,⟨λ_=>0,x.congr (λj q=>by rw[acf q];simp),λi hi=>absurd hi (Qzq _)⟩,aj⟩
 clear x aj;obtain⟨k,hk,rfl,E,F⟩:=hrel;have X2:=u.below F;have hl:=X2.lt;by_cases a1:k<p.nb
 .have HG:Hid (∃(G:Nat->Nat),Blk wr a.heap.size 23 p.nb (λi=>if i<k then .slice (some ⟨G i,0,none⟩) p.ns p.ns else .slice none 0 0)/\(∀i,i<k->a.heap.size<G i/\Blk wr (G i) 3 p.ns (λ_ => .int .i64 0))):=E;clear E;have m1:(0:Int)<=(k:Int):=by omega
  go_wp2_with fail;refine(B9 w.heap.size p wr c hl (X2.k 1)).mono ?_;rintro e d ⟨rfl,al,f⟩;obtain⟨G,Y,l⟩:=HG.out;have bu:=Y.lt;have z:=Y.below f;have bt:=z.frozen k;have ay:=z.cell a1;simp only[Nat.lt_irrefl,if_false] at ay;have n:=F.trans (f.mono F.size);have st:=n.setCell (p:=⟨a.heap.size,k,none⟩) nlr (.slice (some ⟨wr.heap.size,0,none⟩) p.ns p.ns);have KB:=z.set k (.slice (some ⟨wr.heap.size,0,none⟩) p.ns p.ns);have KO:∀i,i<k->Blk (d.setCell ⟨a.heap.size,k,none⟩ (.slice (some ⟨wr.heap.size,0,none⟩) p.ns p.ns)) (G i) 3 p.ns (λ_ => .int .i64 0):=λi hi=>((l i hi).2.below f).other (by have:=(l i hi).1;show _≠a.heap.size;omega) _;have KN:Blk (d.setCell ⟨a.heap.size,k,none⟩ (.slice (some ⟨wr.heap.size,0,none⟩) p.ns p.ns)) wr.heap.size 3 p.ns (λ_ => .int .i64 0):=al.other (by show _≠a.heap.size;omega) _;have HH:Hid _:=And.intro KB (And.intro KO (And.intro KN l));clear KB KO KN Y z l al X2 HG;go_wp2_with fail;go_roundw
  case measure=>simp[intOf];omega
  obtain⟨KB,KO,KN,l⟩:=HH.out;refine⟨k+1,by omega,by go_num,⟨λi=>if i=k then wr.heap.size else G i,KB.congr ?_,?_⟩,st⟩
  .intro j q;by_cases o:j=k
   .subst o;simp
   by_cases h2:j<k
   .simp[o,h2,show j<k+1 by omega]
   simp[o,h2,show ¬j<k+1 by omega]
  intro j q;by_cases o:j=k
  .subst o;simp only[if_true];exact⟨by omega,KN⟩
  simp only[if_neg o];exact⟨(l j (by omega)).1,KO j (by omega)⟩
 have bd:k=p.nb:=by omega
 subst bd;have HG:Hid (∃(G:Nat->Nat),Blk wr a.heap.size 23 p.nb (λi=>if i<p.nb then .slice (some ⟨G i,0,none⟩) p.ns p.ns else .slice none 0 0)/\(∀i,i<p.nb->a.heap.size<G i/\Blk wr (G i) 3 p.ns (λ_ => .int .i64 0))):=E;clear E;go_wp2_with fail;refine(B9 w.heap.size p wr c hl (X2.k 1)).mono ?_;rintro e d ⟨rfl,k3,f⟩;have n:=F.trans (f.mono F.size);go_wp2_with fail;refine(B9 w.heap.size p d c (u.below n).lt ((u.below n).k 1)).mono ?_;rintro e m ⟨rfl,k4,D⟩;have B:=n.trans (D.mono n.size);go_wp2_with fail;refine(B9 w.heap.size p m c (u.below B).lt ((u.below B).k 1)).mono ?_;rintro e w5 ⟨rfl,k5,T⟩;have ak:=B.trans (T.mono B.size);have Z5:=Z1.below ak;obtain⟨zl,au,bc,ap,zc1,ar,zc2,a6,zc3,be,zc4,bb,zc5,a9,aw⟩:=z7 Z5;go_wp2_with fail;have H:=rq Z5 (.slice (some ⟨a.heap.size,0,none⟩) p.nb p.nb) (.slice .none 0 0) (.slice .none 0 0) (.slice .none 0 0) (.slice (some ⟨wr.heap.size,0,none⟩) p.ns p.ns) (.slice (some ⟨d.heap.size,0,none⟩) p.ns p.ns) (.slice (some ⟨m.heap.size,0,none⟩) p.ns p.ns);obtain⟨G,Y,l⟩:=HG.out;have K:=D.trans (T.mono D.size);have V:=f.trans (K.mono f.size);have s1:=Z1.lt;have sr:=F.size;have s3:=f.size;have s4:=D.size;have P:=xq (b:=w.heap.size+1) (Y.below V) (by omega) (.slice (some ⟨a.heap.size,0,none⟩) p.nb p.nb) (.slice .none 0 0) (.slice .none 0 0) (.slice .none 0 0) (.slice (some ⟨wr.heap.size,0,none⟩) p.ns p.ns) (.slice (some ⟨d.heap.size,0,none⟩) p.ns p.ns) (.slice (some ⟨m.heap.size,0,none⟩) p.ns p.ns);have U:=λi (hi:i<p.nb)=>xq (b:=w.heap.size+1) ((l i hi).2.below V) (by have:=(l i hi).1;omega) (.slice (some ⟨a.heap.size,0,none⟩) p.nb p.nb) (.slice .none 0 0) (.slice .none 0 0) (.slice .none 0 0) (.slice (some ⟨wr.heap.size,0,none⟩) p.ns p.ns) (.slice (some ⟨d.heap.size,0,none⟩) p.ns p.ns) (.slice (some ⟨m.heap.size,0,none⟩) p.ns p.ns);have Q:=xq (b:=w.heap.size+1) (k3.below K) (by omega) (.slice (some ⟨a.heap.size,0,none⟩) p.nb p.nb) (.slice .none 0 0) (.slice .none 0 0) (.slice .none 0 0) (.slice (some ⟨wr.heap.size,0,none⟩) p.ns p.ns) (.slice (some ⟨d.heap.size,0,none⟩) p.ns p.ns) (.slice (some ⟨m.heap.size,0,none⟩) p.ns p.ns);have J:=xq (b:=w.heap.size+1) (k4.below T) (by omega) (.slice (some ⟨a.heap.size,0,none⟩) p.nb p.nb) (.slice .none 0 0) (.slice .none 0 0) (.slice .none 0 0) (.slice (some ⟨wr.heap.size,0,none⟩) p.ns p.ns) (.slice (some ⟨d.heap.size,0,none⟩) p.ns p.ns) (.slice (some ⟨m.heap.size,0,none⟩) p.ns p.ns);have X:=xq (b:=w.heap.size+1) k5 (by omega) (.slice (some ⟨a.heap.size,0,none⟩) p.nb p.nb) (.slice .none 0 0) (.slice .none 0 0) (.slice .none 0 0) (.slice (some ⟨wr.heap.size,0,none⟩) p.ns p.ns) (.slice (some ⟨d.heap.size,0,none⟩) p.ns p.ns) (.slice (some ⟨m.heap.size,0,none⟩) p.ns p.ns);have t:=nf (b:=w.heap.size+1) (M.trans (ak.mono M.size)) (by omega) (.slice (some ⟨a.heap.size,0,none⟩) p.nb p.nb) (.slice .none 0 0) (.slice .none 0 0) (.slice .none 0 0) (.slice (some ⟨wr.heap.size,0,none⟩) p.ns p.ns) (.slice (some ⟨d.heap.size,0,none⟩) p.ns p.ns) (.slice (some ⟨m.heap.size,0,none⟩) p.ns p.ns);unfold set7 at H P U Q J X t
 generalize (((((((w5.setCell { block:=w.heap.size+1,off:=0 } (Value.slice (some { block:=a.heap.size,off:=0 }) p.nb p.nb)).setCell { block:=w.heap.size+1,off:=1 } (Value.slice none 0 0)).setCell { block:=w.heap.size+1,off:=2 } (Value.slice none 0 0)).setCell { block:=w.heap.size+1,off:=3 } (Value.slice none 0 0)).setCell { block:=w.heap.size+1,off:=4 } (Value.slice (some { block:=wr.heap.size,off:=0 }) p.ns p.ns)).setCell { block:=w.heap.size+1,off:=5 } (Value.slice (some { block:=d.heap.size,off:=0 }) p.ns p.ns)).setCell { block:=w.heap.size+1,off:=6 } (Value.slice (some { block:=m.heap.size,off:=0 }) p.ns p.ns))=WZ at *
 obtain⟨c0,c1,c2,c3,c4,c5,c6⟩:=cn H;refine Xzq (v := .tuple #[(⟨⟨some ⟨a.heap.size,0,none⟩,p.nb,p.nb,λi=>⟨some ⟨G i,0,none⟩,p.ns,p.ns,λ_=>0⟩⟩,⟨none,0,0,λ_=>⟨0,⟨none,0,0,λ_=>⟨0,0,0,0⟩⟩⟩⟩,⟨none,0,0,λ_=>⟨0,0,0,0⟩⟩,⟨none,0,0,λ_=>⟨0,0,0,0⟩⟩,⟨some ⟨wr.heap.size,0,none⟩,p.ns,p.ns,λ_=>0⟩,⟨some ⟨d.heap.size,0,none⟩,p.ns,p.ns,λ_=>0⟩,⟨some ⟨m.heap.size,0,none⟩,p.ns,p.ns,λ_=>0⟩⟩:St).val,.int .i64 0]) (by simp[results,results22,go_sem,St.val,c0,c1,c2,c3,c4,c5,c6]) rfl ?_;refine⟨_,by rw[H0.out],λbf hz hs=>⟨⟨Nat.le_refl _,by show p.nb<=maxLen;unfold maxLen;omega,λi hi => ?_⟩,⟨Nat.le_refl _,Qxz _,λi hi=>absurd hi (Qzq _)⟩,Hs.none _,Hs.none _,M2 (Q.same (hs _ (by omega) Q.lt)) c,M2 (J.same (hs _ (by omega) J.lt)) c,M2 (X.same (hs _ (by omega) X.lt)) c⟩,⟨λ_=>⟨rfl,λi hi=>⟨rfl,λj q=>rfl⟩,rfl,rfl,rfl,⟨rfl,λj q=>rfl⟩,⟨rfl,λj q=>rfl⟩,⟨rfl,λj q=>rfl⟩⟩,λh=>absurd H0.out h⟩,t⟩;have r:i<p.nb:=hi;have S:=P.same (hs _ (by omega) P.lt);refine⟨a.heap.size,0,rfl,S.lt,?_,M2 ((U i r).same (hs _ (by have:=(l i r).1;omega) (U i r).lt)) c⟩;have:=S.cell r;rw[if_pos r] at this;rw[Nat.zero_add];exact this
def Bw(p:Pl)(t:List UInt8):Int:=if iy p=0 then Gj t else iy p
def Rh(p:Pl)(t:List UInt8):Nat:=if Bw p t=0 then(pr t).length else 0
def Tr(p:Pl)(t:List UInt8)(y:St):Prop:=(Bw p t=0->∃s0,zr p s0/\ae y (qr p s0 (pr t)))/\(¬Bw p t=0->Dj y)
theorem Zk{p:Pl}{s y d:St}{x c:Ax}(r:au p s)(e:ae y s)(a:yj x c)(h:du (doE p y x) (doT p y x) d):(doE p y x=0->ae d (vh p s c))/\(¬doE p y x=0->ae y (vh p s c)):=by
 have k:=Lv r e a;unfold vh at k;refine⟨λb => ?_,λb => ?_⟩
 .rw[if_pos b] at k;exact(h.1 b).trans k
 rw[if_neg b] at k;exact k
theorem Zp{p:Pl}{s:St}{l:List Ax}{j:Nat}(h:j<l.length):qr p s (l.take (j+1))=vh p (qr p s (l.take j)) l[j]:=by
 rw[List.take_add_one,List.getElem?_eq_getElem h];exact Wk p s (l.take j) [l[j]]
theorem As.At.six{w:World}{s:As}(h:s.At w){i:Nat}(hi:i<s.n):∃b o,s.a=some ⟨b,o,none⟩/\w.cell? ⟨b,o+i*6,none⟩=some (.int .i64 (s.z i).k)/\w.cell? ⟨b,o+i*6+1,none⟩=some (.int .i64 (s.z i).a)/\w.cell? ⟨b,o+i*6+2,none⟩=some (.int .i64 (s.z i).b)/\w.cell? ⟨b,o+i*6+3,none⟩=some (.int .i64 (s.z i).c)/\w.cell? ⟨b,o+i*6+4,none⟩=some (.int .i64 (s.z i).n)/\w.cell? ⟨b,o+i*6+5,none⟩=some (.slice (s.z i).ls.a (s.z i).ls.n (s.z i).ls.c):=by
 obtain⟨b,o,d,hc⟩:=h.cells i hi;exact⟨b,o,d,hc 0 (by decide),hc 1 (by decide),hc 2 (by decide),hc 3 (by decide),hc 4 (by decide),hc 5 (by decide)⟩
theorem aaj{w:World}{b o:Nat}{v:Value}(h:w.cell? ⟨b,o,none⟩=some v):b<w.heap.size:=by
 unfold World.cell? at h
 split at h
 .rename_i a;exact(Qkq a).1
 cases h
theorem Bt.set7{R:Nat}{a w:World}(h:Bt R a w)(f g e i d c b:Value):Bt R a (Go.Proofs.YtbcacebifpagpagGreat.set7 w R f g e i d c b):=
 ((((((h.set (p:=⟨R,0,none⟩) (Or.inl rfl) f).set (p:=⟨R,1,none⟩) (Or.inl rfl) g).set (p:=⟨R,2,none⟩) (Or.inl rfl) e).set (p:=⟨R,3,none⟩) (Or.inl rfl) i).set (p:=⟨R,4,none⟩) (Or.inl rfl) d).set (p:=⟨R,5,none⟩) (Or.inl rfl) c).set (p:=⟨R,6,none⟩) (Or.inl rfl) b
theorem R4(p:Pl)(t:List UInt8)(w:World)(hp:p.At w):
  Calls prog 8 #[p.val,.string ⟨t.toArray⟩] w λe w'=>∃y:St,e = .returned (.tuple #[y.val,.int .i64 (Rh p t:Int),.int .i64 (Bw p t)])/\y.At w'/\Tr p t y/\Below w.heap.size w w':=by
 obtain⟨H,hW,ak,X0,Z0,b5⟩:∃W,(w.alloc (.cells #[.slice p.ab p.nb p.cb,.slice p.sa p.ns p.cs] 25)).alloc (.cells #[.slice .none 0 0,.slice .none 0 0,.slice .none 0 0,.slice .none 0 0,.slice .none 0 0,.slice .none 0 0,.slice .none 0 0] 31)=W/\Below w.heap.size w W/\Blk W w.heap.size 25 2 (λj=>(#[.slice p.ab p.nb p.cb,.slice p.sa p.ns p.cs]:Array Value).getD j default)/\Blk W (w.heap.size+1) 31 7 (λ_ => .slice .none 0 0)/\W.heap.size=w.heap.size+2 :=
  ⟨_,rfl,js _ _ _,(Blk.mk' rfl rfl).alloc _,(Blk.mk' (cur:=#[.slice .none 0 0,.slice .none 0 0,.slice .none 0 0,.slice .none 0 0,.slice .none 0 0,.slice .none 0 0,.slice .none 0 0]) (by simp) rfl).congr (λj hj=>by match j,hj with|0,_=>rfl|1,_=>rfl|2,_=>rfl|3,_=>rfl|4,_=>rfl|5,_=>rfl|6,_=>rfl),by simp⟩
 have HC:Hid (∀g,Below H.heap.size H g->Blk g w.heap.size 25 2 (λj=>(#[.slice p.ab p.nb p.cb,.slice p.sa p.ns p.cs]:Array Value).getD j default)/\Blk g (w.heap.size+1) 31 7 (λ_ => .slice .none 0 0)/\p.At g/\Below w.heap.size w g):=λg h=>⟨X0.below h,Z0.below h,(hp.below ak).below h,ak.trans (h.mono ak.size)⟩;have HW:Hid ((w.alloc (.cells #[.slice p.ab p.nb p.cb,.slice p.sa p.ns p.cs] 25)).alloc (.cells #[.slice .none 0 0,.slice .none 0 0,.slice .none 0 0,.slice .none 0 0,.slice .none 0 0,.slice .none 0 0,.slice .none 0 0] 31)=H):=hW;have cq:=hid b5;have bx:Hid (∀(E:Int) (g:World),Below H.heap.size H g->Bw p t=E->¬E=0->∃y:St,Ending.returned (.tuple #[l8.val,.int .i64 0,.int .i64 E]) = .returned (.tuple #[y.val,.int .i64 (Rh p t:Int),.int .i64 (Bw p t)])/\y.At (set7 g (w.heap.size+1) (.slice .none 0 0) (.slice .none 0 0) (.slice .none 0 0) (.slice .none 0 0) (.slice .none 0 0) (.slice .none 0 0) (.slice .none 0 0))/\Tr p t y/\Below w.heap.size w (set7 g (w.heap.size+1) (.slice .none 0 0) (.slice .none 0 0) (.slice .none 0 0) (.slice .none 0 0) (.slice .none 0 0) (.slice .none 0 0) (.slice .none 0 0))):=λE g h K V=>by
  refine⟨l8,?_,vy _,⟨λh=>absurd (K.symm.trans h) V,λ_=>⟨rfl,rfl,rfl,rfl,rfl,rfl,rfl⟩⟩,nf (HC.out g h).2.2.2 (by omega) _ _ _ _ _ _ _⟩;have hN:Rh p t=0:=if_neg (by rw[K];exact V);rw[hN,K]
  rfl
 have b0:=hid (hp.below ak);clear hW ak X0 Z0 hp b5;unfold Pl.val;go_enter func8,ntmps8;go_wp2_with fail;rw[HW.out];refine(X6 p H b0.out).mono ?_;rintro e w1 ⟨s,rfl,b6,bv,hB⟩;obtain⟨W2,ce,a8,KS⟩:=ab7 w1 s;have aw:=hid ce;have ay:=hid (hB.trans (a8.mono hB.size));have bu:Hid (Fr H.heap.size W2 s):=b6.below a8;have c7:=hid bv;have cd:=hid KS;have b8:=qa2 hB.size KS.lt;clear ce a8 KS b6 bv HW b0;obtain⟨-,f,-,-⟩:=HC.out w1 hB;obtain⟨zl,m,A,l,zc1,D,zc2,r,zc3,B,zc4,G,zc5,F,o⟩:=z7 f;clear hB f;simp only[St.val];by_cases V:iy p=0;rotate_left
 .have g0:(iy p !=0)=true:=by simpa using V
  obtain⟨-,f,-,-⟩:=HC.out W2 ay.out;clear zl m A l zc1 D zc2 r zc3 B zc4 G zc5 F o;obtain⟨zl,m,A,l,zc1,D,zc2,r,zc3,B,zc4,G,zc5,F,o⟩:=z7 f;rw[<-aw.out] at zl m A l zc1 D zc2 r zc3 B zc4 G zc5 F o;have ax:Hid (_):=bx.out (iy p) W2 ay.out (by unfold Bw;rw[if_neg V]) V;have P:Hid (Blk (set7 W2 (w.heap.size+1) (.slice .none 0 0) (.slice .none 0 0) (.slice .none 0 0) (.slice .none 0 0) (.slice .none 0 0) (.slice .none 0 0) (.slice .none 0 0)) (w.heap.size+1) 31 7 (λj=>(#[.slice .none 0 0,.slice .none 0 0,.slice .none 0 0,.slice .none 0 0,.slice .none 0 0,.slice .none 0 0,.slice .none 0 0]:Array Value).getD j default)):=n7b f
  generalize iy p=EE at *
  clear f;rw[<-aw.out] at P ax;go_wp2_with fail;have X:=P.out;have U:=ax.out;unfold set7 at X U;obtain⟨ai,ah,ag,ac,aj,am,ad⟩:=cn X;refine Xzq (v := .tuple #[l8.val,.int .i64 0,.int .i64 EE]) (by simp[results,results8,go_sem,l8,St.val,ai,ah,ag,ac,aj,am,ad]) rfl ?_;exact U
 have aq:=hid V;rw[V];clear V zl m A l zc1 D zc2 r zc3 B zc4 G zc5 F o;go_wp2_with fail;rw[aw.out];refine(Lj t W2).mono ?_;rintro e w3 ⟨d,rfl,an,av,T,af⟩;have L:=qa3 an av T;have az:=hid (ay.out.trans (af.mono ay.out.size));have b7:Hid (Fr H.heap.size w3 s):=bu.out.below af;have b9:=hid (cd.out.below af);have dn:=hid af.size;clear an av af bu cd aw;have dp:=T.le;have ch:=T.cap;have dq:d.n<=60:=by rw[L.out.1];exact Zn t
 clear T;unfold maxLen at ch;obtain⟨-,f,-,-⟩:=HC.out w3 az.out;simp only[As.val];by_cases hr:Gj t=0;rotate_left
 .have gr:(Gj t !=0)=true:=by simpa using hr
  obtain⟨zl,m,A,l,zc1,D,zc2,r,zc3,B,zc4,G,zc5,F,o⟩:=z7 f;have ax:Hid (_):=bx.out (Gj t) w3 az.out (by unfold Bw;rw[if_pos aq.out]) hr;have P:Hid (Blk (set7 w3 (w.heap.size+1) (.slice .none 0 0) (.slice .none 0 0) (.slice .none 0 0) (.slice .none 0 0) (.slice .none 0 0) (.slice .none 0 0) (.slice .none 0 0)) (w.heap.size+1) 31 7 (λj=>(#[.slice .none 0 0,.slice .none 0 0,.slice .none 0 0,.slice .none 0 0,.slice .none 0 0,.slice .none 0 0,.slice .none 0 0]:Array Value).getD j default)):=n7b f
  generalize Gj t=EE at *
  clear f;go_wp2_with fail;have X:=P.out;have U:=ax.out;unfold set7 at X U;obtain⟨ai,ah,ag,ac,aj,am,ad⟩:=cn X;refine Xzq (v := .tuple #[l8.val,.int .i64 0,.int .i64 EE]) (by simp[results,results8,go_sem,l8,St.val,ai,ah,ag,ac,aj,am,ad]) rfl ?_;exact U
 have cy:=hid hr;rw[hr];clear hr f;have bc:Hid (Bw p t=0/\Rh p t=(pr t).length):=by
  have e1:Bw p t=0:=by unfold Bw;rw[if_pos aq.out];exact cy.out
  exact⟨e1,if_pos e1⟩
 have b1:Hid (zr p s):=c7.out.1 aq.out;have cw:Hid (∀j,au p (qr p s ((pr t).take j))):=λj=>Jt _ (ed (Jm aq.out b1.out));go_wp2_with fail
 generalize hSe:w1.heap.size=S at *
 clear hSe
 go_loopw [36] (λjv g=>∃(j:Nat) (y:St) (n:Nat),j<=d.n/\jv = .int .i64 j/\Hid (Blk g S 31 7 (λj=>y.cells.getD j default)/\Fr n g y/\H.heap.size<=n/\ae y (qr p s ((pr t).take j))/\Bt S w3 g)) (λjv _=>d.n-(intOf jv).toNat)
 case atStart=>exact⟨0,s,H.heap.size,Qxz _,rfl,b9.out,b7.out,Nat.le_refl _,ae.self _,Bt.refl _ _⟩
 obtain⟨j,y,n,hj,rfl,i⟩:=hrel;clear b9 b7;have a7:Below H.heap.size H wr:=az.out.trans (i.out.2.2.2.2.below b8.out.1 (by have:=az.out.size;omega));have cv:=hid a7;obtain⟨hP,f,bh,a4⟩:=HC.out wr a7;clear a7;have d0:wr.cell? ⟨w.heap.size,0,none⟩=some (.slice p.ab p.nb p.cb):=hP.k 0;have d1:wr.cell? ⟨w.heap.size,1,none⟩=some (.slice p.sa p.ns p.cs):=hP.k 1;have dl:=hP.lt;obtain⟨m1,p0,p1,p2,p3,p4,p5,p6⟩:=Boxed.of i.out.1;by_cases J:j<d.n;rotate_left
 .have q1:¬(j:Int)<(d.n:Int):=by omega
  have co:j=d.n:=by omega
  subst co;obtain⟨zl,m,A,l,zc1,D,zc2,r,zc3,B,zc4,G,zc5,F,o⟩:=z7 f;have cu:Hid (y.At (set7 wr (w.heap.size+1) (.slice y.on.a y.on.n y.on.c) (.slice y.os.a y.os.n y.os.c) (.slice y.hs.a y.hs.n y.hs.c) (.slice y.ms.a y.ms.n y.ms.c) (.slice y.si.a y.si.n y.si.c) (.slice y.so.a y.so.n y.so.c) (.slice y.sf.a y.sf.n y.sf.c))/\Below w.heap.size w (set7 wr (w.heap.size+1) (.slice y.on.a y.on.n y.on.c) (.slice y.os.a y.os.n y.os.c) (.slice y.hs.a y.hs.n y.hs.c) (.slice y.ms.a y.ms.n y.ms.c) (.slice y.si.a y.si.n y.si.c) (.slice y.so.a y.so.n y.so.c) (.slice y.sf.a y.sf.n y.sf.c))):=⟨(i.out.2.1.set7 (by have:=i.out.2.2.1;have:=cq.out;omega) (.slice y.on.a y.on.n y.on.c) (.slice y.os.a y.os.n y.os.c) (.slice y.hs.a y.hs.n y.hs.c) (.slice y.ms.a y.ms.n y.ms.c) (.slice y.si.a y.si.n y.si.c) (.slice y.so.a y.so.n y.so.c) (.slice y.sf.a y.sf.n y.sf.c)).at,s7w a4 (by omega) y⟩;have P:Hid (Blk (set7 wr (w.heap.size+1) (.slice y.on.a y.on.n y.on.c) (.slice y.os.a y.os.n y.os.c) (.slice y.hs.a y.hs.n y.hs.c) (.slice y.ms.a y.ms.n y.ms.c) (.slice y.si.a y.si.n y.si.c) (.slice y.so.a y.so.n y.so.c) (.slice y.sf.a y.sf.n y.sf.c)) (w.heap.size+1) 31 7 (λj=>(#[.slice y.on.a y.on.n y.on.c,.slice y.os.a y.os.n y.os.c,.slice y.hs.a y.hs.n y.hs.c,.slice y.ms.a y.ms.n y.ms.c,.slice y.si.a y.si.n y.si.c,.slice y.so.a y.so.n y.so.c,.slice y.sf.a y.sf.n y.sf.c]:Array Value).getD j default)):=s7b f y;have bi:Hid (ae y (qr p s (pr t))):=by
   have h:=i.out.2.2.2.1;rw[L.out.1,List.take_length] at h;exact h
  clear f hP bh a4 i;go_wp2_with fail;have X:=P.out;have U:=cu.out;unfold set7 at X U;obtain⟨ai,ah,ag,ac,aj,am,ad⟩:=cn X;refine Xzq (v := .tuple #[y.val,.int .i64 (d.n:Int),.int .i64 0]) (by simp[results,results8,go_sem,St.val,ai,ah,ag,ac,aj,am,ad]) rfl ?_;exact⟨y,by rw[bc.out.1,bc.out.2,L.out.1],U.1,⟨λ_=>⟨s,b1.out,bi.out⟩,λh=>absurd bc.out.1 h⟩,U.2⟩
 have q0:(0:Int)<=(j:Int):=by omega
 have q1:(j:Int)<(d.n:Int):=by omega
 clear f;have ap:D4 W2.heap.size wr d:=L.out.2.2.bt i.out.2.2.2.2 b8.out.2;obtain⟨xb,xo,b3,x0,x1,x2,x3,x4,x5⟩:=ap.at.six J;have xl:=aaj x0;have b2:Hid ((d.z j).ls.At wr):=(ap.lines j J).at;have c6:Hid (yj (d.z j) ((pr t)[j]'(by rw[<-L.out.1];exact J))):=L.out.2.1 j (by rw[<-L.out.1];exact J);have c4:Hid (qr p s ((pr t).take (j+1))=vh p (qr p s ((pr t).take j)) ((pr t)[j]'(by rw[<-L.out.1];exact J))):=Zp (by rw[<-L.out.1];exact J)
 generalize hxe:d.z j=x at *
 generalize ((pr t)[j]'(by rw[<-L.out.1];exact J))=x' at *
 obtain⟨M,ca,q⟩:∃W,wr.alloc (.cells #[.int .i64 x.k,.int .i64 x.a,.int .i64 x.b,.int .i64 x.c,.int .i64 x.n,.slice x.ls.a x.ls.n x.ls.c] 47)=W/\Below wr.heap.size wr W:=⟨_,rfl,brf.alloc nlr _⟩;have b4:Hid (wr.alloc (.cells #[.int .i64 x.k,.int .i64 x.a,.int .i64 x.b,.int .i64 x.c,.int .i64 x.n,.slice x.ls.a x.ls.n x.ls.c] 47)=M):=ca;have ar:=qa3 (bh.below q) (i.out.2.1.at.below q) (b2.out.below q);have aa:Hid (Blk M S 31 7 (λj=>y.cells.getD j default)/\Fr n M y/\Bt S w3 M/\H.heap.size<=M.heap.size/\S<M.heap.size):=⟨i.out.1.below q,i.out.2.1.below q,i.out.2.2.2.2.trans (Bt.of q nlr),Qzx cv.out.size q.size,Xzx i.out.1.lt q.size⟩;have bw:=qa2 i.out.2.2.1 i.out.2.2.2.1;rw[b3];clear ap b3 hxe ca q bh i hP a4 b2;go_wp2_with fail;rw[b4.out];refine(Lc p y x M ar.out.1 ar.out.2.1 ar.out.2.2).mono ?_;rintro e w5 ⟨u,rfl,da,cc,a2,bf⟩;have HU:Hid ((doE p y x=0->ae u (qr p s ((pr t).take (j+1))))/\(¬doE p y x=0->ae y (qr p s ((pr t).take (j+1))))):=by
  have:=Zk (cw.out j) bw.out.2 c6.out cc;rw[<-c4.out] at this;exact this
 obtain⟨W6,bz,a6,KU⟩:=ab7 w5 u;have Y:=hid bz;have Q:=bf.trans (a6.mono bf.size);have al:Hid (Blk W6 S 31 7 (λj=>y.cells.getD j default)/\Fr n W6 y/\Bt S w3 W6):=⟨aa.out.1.below Q,aa.out.2.1.below Q,aa.out.2.2.1.trans (Bt.of Q nlr)⟩;have ba:Hid (doE p y x=0->Fr M.heap.size W6 u):=λh=>(a2 h).fr.below a6;clear m1 p0 p1 p2 p3 p4 p5 p6 d0 d1 dl x0 x1 x2 x3 x4 x5 xl b4 ar da cc a2 bf a6 Q bz;simp only[St.val];by_cases K:doE p y x=0;rotate_left
 .have bi:Hid (ae y (qr p s ((pr t).take (j+1)))):=HU.out.2 K;have gE:(doE p y x==0)=false:=by simpa using K
  clear K KU ba HU
  generalize doE p y x=EE at *
  go_wp2_with fail;rw[Y.out];clear Y;go_roundw
  case rel=>exact⟨j+1,y,n,by omega,by go_num,al.out.1,al.out.2.1,bw.out.1,bi.out,al.out.2.2⟩
  case measure=>simp[intOf];omega
 have cz:Hid (ae u (qr p s ((pr t).take (j+1)))):=HU.out.1 K;have cp:Hid (Fr M.heap.size W6 u):=ba.out K;rw[K];have f:=al.out.1;obtain⟨zl,m,A,l,zc1,D,zc2,r,zc3,B,zc4,G,zc5,F,o⟩:=z7 f;have bd:Blk W6 w5.heap.size 31 7 (λj=>u.cells.getD j default):=KU;have c8:=bd.k 0;obtain⟨m1,p0,p1,p2,p3,p4,p5,p6⟩:=Boxed.of bd;have HN:=qa3 (s7b f u) (cp.out.set7 aa.out.2.2.2.2 (.slice u.on.a u.on.n u.on.c) (.slice u.os.a u.os.n u.os.c) (.slice u.hs.a u.hs.n u.hs.c) (.slice u.ms.a u.ms.n u.ms.c) (.slice u.si.a u.si.n u.si.c) (.slice u.so.a u.so.n u.so.c) (.slice u.sf.a u.sf.n u.sf.c)) (al.out.2.2.set7 (.slice u.on.a u.on.n u.on.c) (.slice u.os.a u.os.n u.os.c) (.slice u.hs.a u.hs.n u.hs.c) (.slice u.ms.a u.ms.n u.ms.c) (.slice u.si.a u.si.n u.si.c) (.slice u.so.a u.so.n u.so.c) (.slice u.sf.a u.sf.n u.sf.c));clear K KU bd c8 f ba HU;rw[<-Y.out] at zl m A l zc1 D zc2 r zc3 B zc4 G zc5 F o m1 p0 p1 p2 p3 p4 p5 p6;go_wp2_with fail;rw[Y.out];clear Y zl m A l zc1 D zc2 r zc3 B zc4 G zc5 F o m1 p0 p1 p2 p3 p4 p5 p6;have a5:=HN.out;unfold set7 at a5;have bg:Hid (_/\_/\_):=a5;clear HN a5;go_roundw
 case rel=>exact⟨j+1,u,M.heap.size,by omega,by go_num,bg.out.1,bg.out.2.1,aa.out.2.2.2.1,cz.out,bg.out.2.2⟩
 case measure=>simp[intOf];omega
theorem Yp(z:Int):na z = .int .u8 ((zw z).toNat:Int):=by rw[T3];rfl
theorem Vr{L A:Nat}{w:World}{o:Bool}{zs:List Int}(h:te L A w o (zs.map na))(x:0<zs.length):∃a c,Blk w A 79 2 (λj=>(#[.slice a zs.length c,.bool o]:Array Value).getD j default)/\∀b,Below w.heap.size w b->(convert 77 9 (.slice a zs.length c)).run prog b = .ok (.string ⟨(zs.map zw).toArray⟩) b:=by
 obtain⟨a,c,l,m⟩:=h;simp only[List.length_map] at l m;have i:(Value.slice a zs.length c) ≠ .slice none 0 0:=λe=>by simp only[Value.slice.injEq] at e;omega
 obtain⟨g,v,d,z,y,u,t⟩:=Blk.ofOwns m i;simp only[Value.slice.injEq,true_and] at d;obtain⟨d,q⟩:=d;subst d q;refine⟨_,c,l,λb r => ?_⟩;have s:=t.below r;have f:(zs.map zw).length=zs.length:=by simp
 have:=run_convert_bytes_back (P:=prog) b 77 9 5 ⟨g,0,none⟩ c (zs.map zw) underlying77 underlying5 underlying9 (λj n=>by
  have k:j<zs.length:=by rw[<-f];exact n
  have p:(⟨g,0,none⟩:Addr).add j=⟨g,j,none⟩:=by
   unfold Addr.add;by_cases h:j=0
   .subst h;rfl
   rw[if_neg h];simp
  rw[p,s.cell (j:=j) (by omega)];simp[List.getD,List.getElem?_eq_getElem k,Yp])
 rw[f] at this;exact this
theorem Hb(x:Ax)(w:World)(hx:x.ls.At w)(hn:x.ls.n<=8796093022208):
  Calls prog 14 #[x.val] w λe w'=>e = .returned (.tuple #[.string ⟨(I4 x).toArray⟩,.int .i64 (wu x)])/\Below w.heap.size w w':=by
 obtain⟨g,hW,f,KA,A,m⟩:∃W,((w.alloc (.cells x.cells 47)).alloc (.cells #[.slice none 0 0,.bool false] 79)).alloc (.cells #[.int .i64 x.k,.int .i64 x.a,.int .i64 x.b,.int .i64 x.c,.int .i64 x.n,.int .i64 (x.ls.n:Int)] 3)=W/\Blk W w.heap.size 47 6 (λj=>x.cells.getD j default) /\
   te (w.heap.size+1) (w.heap.size+1) W false []/\Blk W (w.heap.size+1+1) 3 6 (λj => .int .i64 ((z6 x).getD j 0))/\Below w.heap.size w W :=
  ⟨_,rfl,((Blk.mk' (cur:=x.cells) rfl rfl).alloc _).alloc _,⟨none,0,((Blk.mk' (cur:=#[.slice none 0 0,.bool false]) (by simp) rfl).alloc _).congr (λj y=>by match j,y with|0,_=>rfl|1,_=>rfl),World.ownsRow_nil _ _ _ _⟩,
   (Blk.mk' (cur:=#[.int .i64 x.k,.int .i64 x.a,.int .i64 x.b,.int .i64 x.c,.int .i64 x.n,.int .i64 (x.ls.n:Int)]) (by simp) rfl).congr (λj y=>by match j,y with|0,_|1,_|2,_|3,_|4,_|5,_=>rfl),((brf.alloc nlr _).alloc (by simp) _).alloc (by simp;omega) _⟩
 have HW:Hid (((w.alloc (.cells #[.int .i64 x.k,.int .i64 x.a,.int .i64 x.b,.int .i64 x.c,.int .i64 x.n,.slice x.ls.a x.ls.n x.ls.c] 47)).alloc (.cells #[.slice none 0 0,.bool false] 79)).alloc (.cells #[.int .i64 x.k,.int .i64 x.a,.int .i64 x.b,.int .i64 x.c,.int .i64 x.n,.int .i64 (x.ls.n:Int)] 3)=g):=hW;have H:Hid (te (w.heap.size+1) (w.heap.size+1) g false []/\Blk g (w.heap.size+1+1) 3 6 (λj => .int .i64 ((z6 x).getD j 0))/\Below w.heap.size w g):=⟨KA,A,m⟩;have ak:w.heap.size+1<=g.heap.size:=by rw[<-hW];simp
 have HC:Hid (∀r,Below (w.heap.size+1) g r->Blk r w.heap.size 47 6 (λj=>x.cells.getD j default)/\x.ls.At r/\Below w.heap.size w r):=λr h=>⟨f.same (h.block _ (by omega)),hx.below (m.trans (h.mono (by omega))),m.trans (h.mono (by omega))⟩;have HN:Hid (x.ls.n<=8796093022208):=hn;have a6:=hx.le;have Y:=hx.cap;unfold maxLen at Y;clear hW f KA A m hx ak;unfold Ax.val Ax.cells;go_enter func14,ntmps14;go_wp2_with fail;rw[HW.out];refine(Td (w.heap.size+1) (w.heap.size+1) false [] (w.heap.size+1+1) (z6 x) g nlr H.out.1 H.out.2.1 (by show 0+6<=_;omega)).mono ?_;rintro e K ⟨rfl,P,S⟩;have J:Hid (te (w.heap.size+1) (w.heap.size+1) K ((z6 x++ss x.ls.z 0).any sv) ((z6 x++ss x.ls.z 0).map na)/\Below (w.heap.size+1) g K):=⟨by simpa[ss] using P,S⟩;clear P S H HW;obtain⟨f,-,-⟩:=HC.out K J.out.2;have c5:K.cell? ⟨w.heap.size,5,none⟩=some (.slice x.ls.a x.ls.n x.ls.c):=f.k 5;have cl:=f.lt;clear f;go_wp2_with fail;clear c5 cl
 go_loopw [25] (λjv r=>∃j:Nat,j<=x.ls.n/\jv = .int .i64 j/\Hid (te (w.heap.size+1) (w.heap.size+1) r ((z6 x++ss x.ls.z j).any sv) ((z6 x++ss x.ls.z j).map na)/\Below (w.heap.size+1) g r)) (λjv _=>x.ls.n-(intOf jv).toNat)
 case atStart=>exact⟨0,Qxz _,rfl,J⟩
 obtain⟨j,y,rfl,i⟩:=hrel;clear J;obtain⟨f,F,-⟩:=HC.out wr i.out.2;have cl:=f.lt;by_cases am:j<x.ls.n
 .have q0:(0:Int)<=(j:Int):=by omega
  have q1:(j:Int)<(x.ls.n:Int):=by omega
  obtain⟨lb,lo,D,ai,z0,z1,z2,z3⟩:=F.hds j am;have ae:Hid (w.heap.size+1<=wr.heap.size):=by
   obtain⟨a,c,d,-⟩:=i.out.1;exact Nat.le_of_lt d.lt
  generalize hZ:x.ls.z j=Z at *
  have HZ:Hid (x.ls.z j=Z):=hZ;obtain⟨G,X,A,m⟩:∃W,(wr.alloc (.cells #[.int .i64 Z.o,.int .i64 Z.l,.int .i64 Z.b,.int .i64 Z.n] 59)).alloc (.cells #[.int .i64 Z.o,.int .i64 Z.l,.int .i64 Z.b,.int .i64 Z.n] 3)=W/\Blk W (wr.heap.size+1) 3 4 (λj => .int .i64 ((hdN Z).getD j 0))/\Below wr.heap.size wr W :=
   ⟨_,rfl,(Blk.mk' (cur:=#[.int .i64 Z.o,.int .i64 Z.l,.int .i64 Z.b,.int .i64 Z.n]) (by simp) rfl).congr (λj y=>by match j,y with|0,_|1,_|2,_|3,_=>rfl),(brf.alloc nlr _).alloc (by simp) _⟩
  have T:Hid ((wr.alloc (.cells #[.int .i64 Z.o,.int .i64 Z.l,.int .i64 Z.b,.int .i64 Z.n] 59)).alloc (.cells #[.int .i64 Z.o,.int .i64 Z.l,.int .i64 Z.b,.int .i64 Z.n] 3)=G):=X;have u:Hid (Blk G (wr.heap.size+1) 3 4 (λj => .int .i64 ((hdN Z).getD j 0))/\te (w.heap.size+1) (w.heap.size+1) G ((z6 x++ss x.ls.z j).any sv) ((z6 x++ss x.ls.z j).map na)/\Below (w.heap.size+1) g G):=by
   refine⟨A,?_,i.out.2.trans (m.mono ae.out)⟩;obtain⟨a,c,d,hO⟩:=i.out.1;exact⟨a,c,d.below m,lv hO m⟩
  have a7:Hid (x.ls.a=some ⟨lb,lo,none⟩):=D;rw[D];clear D f F hZ X A m i;go_wp2_with fail;rw[T.out];refine(Td (w.heap.size+1) (w.heap.size+1) _ _ (wr.heap.size+1) (hdN Z) G nlr u.out.2.1 u.out.1 (by
   have:=HN.out;rw[List.length_map,List.length_append,F4];show 6+4*j+4<=_;omega)).mono ?_
  rintro e w3 ⟨rfl,M,V⟩;have aj:Hid (te (w.heap.size+1) (w.heap.size+1) w3 ((z6 x++ss x.ls.z (j+1)).any sv) ((z6 x++ss x.ls.z (j+1)).map na)/\Below (w.heap.size+1) g w3):=by
   refine⟨?_,u.out.2.2.trans V⟩;rw[ss,HZ.out,<-List.append_assoc,List.any_append (ys:=hdN Z),List.map_append (l₂:=hdN Z)];exact M
  clear M V u T z0 z1 z2 z3 ai;go_wp2_with fail;go_roundw
  case rel=>exact⟨j+1,by omega,by go_num,aj⟩
  case measure=>simp[intOf];omega
 have q1:¬(j:Int)<(x.ls.n:Int):=by omega
 have ad:j=x.ls.n:=by omega
 subst ad;have t:Hid (te (w.heap.size+1) (w.heap.size+1) wr ((Fh x).any sv) ((Fh x).map na)):=i.out.1;have B:Hid (Below w.heap.size w wr):=(HC.out wr i.out.2).2.2;have c5:wr.cell? ⟨w.heap.size,5,none⟩=some (.slice x.ls.a x.ls.n x.ls.c):=f.k 5;obtain⟨a,c,d,p⟩:=Vr t.out (by rw[Yk];omega);have U:=p wr brf;have q:Hid (wu x=if (Fh x).any sv then 3 else if 3<x.ls.n then 2 else 0):=rfl;have ah:Hid (wu x=0->I4 x=(Fh x).map zw):=λh=>if_pos h;have Q:Hid (wu x≠0->I4 x=[]):=λh=>if_neg h
 generalize (Fh x).length=AL at *
 generalize (Fh x).map zw=BB at *
 cases E:(Fh x).any sv;rotate_left
 .rw[E] at d q;have a1:wr.cell? ⟨w.heap.size+1,1,none⟩=some (.bool true):=d.k 1;have al:=d.lt;have s:Hid (wu x=3):=by show _=_;rw[q.out,if_pos rfl]
  clear f F i t d U p E;go_wp2_with fail;refine Xzq (v := .tuple #[.string ⟨#[]⟩,.int .i64 3]) (by simp[results,results14,go_sem]) rfl ?_;exact⟨by rw[Q.out (by rw[s.out];decide),s.out],B.out⟩
 rw[E] at d q;have a0:wr.cell? ⟨w.heap.size+1,0,none⟩=some (.slice a AL c):=d.k 0;have a1:wr.cell? ⟨w.heap.size+1,1,none⟩=some (.bool false):=d.k 1;have al:=d.lt;by_cases L:3<x.ls.n
 .have q3:(3:Int)<(x.ls.n:Int):=by omega
  have s:Hid (wu x=2):=by show _=_;rw[q.out,if_neg (by decide),if_pos L]
  clear f F i t d U p E L;go_wp2_with fail;refine Xzq (v := .tuple #[.string ⟨#[]⟩,.int .i64 2]) (by simp[results,results14,go_sem]) rfl ?_;exact⟨by rw[Q.out (by rw[s.out];decide),s.out],B.out⟩
 have q3:¬(3:Int)<(x.ls.n:Int):=by omega
 have s:Hid (wu x=0):=by show _=_;rw[q.out,if_neg (by decide),if_neg L]
 clear f F i t d p E L;go_wp2_with fail;refine Xzq (v := .tuple #[.string ⟨BB.toArray⟩,.int .i64 0]) (by simp[results,results14,go_sem]) rfl ?_;exact⟨by rw[ah.out s.out,s.out],B.out⟩
def lx1:Ax:=⟨1,1,0,0,5,⟨none,0,0,λ_=>⟨0,0,0,0⟩⟩⟩
def lx2(B:Nat):Ax:=⟨2,0,0,0,0,⟨some ⟨B,0,none⟩,1,1,λ_=>⟨1,9,0,0⟩⟩⟩
def lx3:Ax:=⟨0,0,0,0,256,⟨none,0,0,λ_=>⟨0,0,0,0⟩⟩⟩
def lx0:Ax:=⟨0,0,0,0,0,⟨none,0,0,λ_=>⟨0,0,0,0⟩⟩⟩
def lt1:List UInt8:=[1,1,0,0,5,0]
def lt2:List UInt8:=[2,0,0,0,0,1,1,9,0,0]
def F5:List UInt8:=[1,1,0,0,5,0,2,0,0,0,0,1,1,9,0,0]
def lt3:List UInt8:=[1,1,0,0,5,0,2,0,0,0,0,1,1,9,0,0,1]
theorem lw1:I4 lx1=lt1/\wu lx1=0:=⟨by kernel_rfl,by kernel_rfl⟩
theorem lw2(B:Nat):I4 (lx2 B)=lt2/\wu (lx2 B)=0:=⟨by kernel_rfl,by kernel_rfl⟩
theorem lw3:wu lx3=3:=by kernel_rfl
theorem lr3:Ik lt3=16/\Gj lt3=0/\(pr lt3).length=2:=⟨by kernel_rfl,by kernel_rfl,by kernel_rfl⟩
theorem Y4(a b:Nat):Bw (p8 a b) F5=0/\Rh (p8 a b) F5=2:=⟨by kernel_rfl,by kernel_rfl⟩
def Zy:St:=⟨⟨none,3,3,λ_=>⟨none,2,2,λ_=>0⟩⟩,⟨none,0,0,λ_=>⟨0,⟨none,0,0,λ_=>⟨0,0,0,0⟩⟩⟩⟩,⟨none,0,0,λ_=>⟨0,0,0,0⟩⟩,⟨none,0,0,λ_=>⟨0,0,0,0⟩⟩,⟨none,2,2,λ_=>0⟩,⟨none,2,2,λ_=>0⟩,⟨none,2,2,λ_=>0⟩⟩
theorem Qi(a b:Nat):zr (p8 a b) Zy:=⟨rfl,λ_ _=>⟨rfl,λ_ _=>rfl⟩,rfl,rfl,rfl,⟨rfl,λ_ _=>rfl⟩,⟨rfl,λ_ _=>rfl⟩,⟨rfl,λ_ _=>rfl⟩⟩
def acd(g1 g2:Nat):St:=qr (p8 g1 g2) Zy (pr F5)
theorem Dk.self:∀l:List Ax,Dk l l
 | []=>trivial
 | x :: l=>⟨yj.self x,Dk.self l⟩
theorem ac1{a b:Nat}{y:St}(h:Tr (p8 a b) F5 y):1<y.on.n/\0<(y.on.r 1).n/\(y.on.r 1).z 0=5/\y.os.n=1:=by
 obtain⟨s0,d,hs⟩:=h.1 (Y4 a b).1;have e:ae y (acd a b):=hs.trans (Lw (ed (Jm (p:=(p8 a b)) (by kernel_rfl) (Qi a b))) (Sa d (Qi a b)) (Dk.self _));have a1:1<y.on.n:=by rw[e.on.1];exact of_decide_eq_true (by kernel_rfl)
 have b1:0<(y.on.r 1).n:=by rw[(e.on.2 1 a1).1];exact of_decide_eq_true (by kernel_rfl)
 have c1:(y.on.r 1).z 0=5:=by rw[(e.on.2 1 a1).2 0 b1];kernel_rfl
 have c:y.os.n=1:=by rw[e.os.1];kernel_rfl
 exact⟨a1,b1,c1,c⟩
theorem abr(w:World):(lx2 w.heap.size).ls.At (w.alloc (.cells #[.int .i64 1,.int .i64 9,.int .i64 0,.int .i64 0] 59)):=by
 have K:=Blk.new w #[.int .i64 1,.int .i64 9,.int .i64 0,.int .i64 0] 59;refine⟨Nat.le_refl _,by show 1<=maxLen;unfold maxLen;omega,λi hi => ?_,λh=>by cases h⟩;have a:i=0:=by have b:i<1:=hi;omega
 subst a;exact⟨w.heap.size,0,rfl,K.lt,K.k 0,K.k 1,K.k 2,K.k 3⟩
theorem Ib(w:World):Calls prog 12 #[] w λe w'=>e = .returned (.bool true)/\Below w.heap.size w w':=by
 have s1:(⟨lt1.toArray⟩:ByteArray).size=6:=rfl;have s2:(⟨lt2.toArray⟩:ByteArray).size=10:=rfl;have be:(⟨F5.toArray⟩:ByteArray).size=16:=rfl;have bf:(⟨lt1.toArray⟩:ByteArray)++⟨lt2.toArray⟩=⟨F5.toArray⟩:=by rw[ByteArray.mk_append_mk];rfl
 have a3:(⟨F5.toArray⟩:ByteArray)++⟨#[1]⟩=⟨lt3.toArray⟩:=by show(⟨F5.toArray⟩:ByteArray)++⟨([1]:List UInt8).toArray⟩=_;rw[ByteArray.mk_append_mk];rfl
 have e1:((⟨lt1.toArray⟩:ByteArray).toList==(⟨#[1,1,0,0,5,0]⟩:ByteArray).toList)=true:=by kernel_rfl
 go_enter func12,ntmps12;go_wp2_with fail;refine(Hb lx1 w (Hs.none w) (Qxz _)).mono ?_;rintro e H ⟨rfl,b⟩;have f:=hid b;clear b;rw[lw1.1,lw1.2];go_wp2_with fail;refine(Hb (lx2 H.heap.size) (H.alloc (.cells #[.int .i64 1,.int .i64 9,.int .i64 0,.int .i64 0] 59)) (abr H) (by show 1<=_;omega)).mono ?_;rintro e w2 ⟨rfl,b⟩;have t:Hid (Below w.heap.size w w2):=f.out.trans ((brf.alloc f.out.size _).trans (b.mono (by simp;have:=f.out.size;omega)));clear b f;rw[(lw2 H.heap.size).1,(lw2 H.heap.size).2];go_wp2_with fail;refine(Lj lt3 w2).mono ?_;rintro e w3 ⟨ae,rfl,an,-,-,b⟩;have B:=hid (t.out.trans (b.mono t.out.size));have bg:(ae.n:Int)=2:=by rw[an,lr3.2.2];rfl
 clear b t an;rw[lr3.1,lr3.2.1];simp only[As.val];go_wp2_with fail;refine(Rz w3).mono ?_;rintro e w4 ⟨K,S,rfl,-,-,q,m,b⟩;have i:=hid (B.out.trans (b.mono B.out.size));have aa:Hid ((p8 K S).At w4):=X5 q m;clear b B q m;go_wp2_with fail;refine(R4 (p8 K S) F5 w4 aa.out).mono ?_;rintro e L ⟨y,rfl,ad,Y,b⟩;have h:=hid (i.out.trans (b.mono i.out.size));have HY:=hid ad;have ab:Hid (1<y.on.n/\0<(y.on.r 1).n/\(y.on.r 1).z 0=5/\y.os.n=1):=ac1 Y;rw[(Y4 K S).1,(Y4 K S).2];clear b i aa ad Y;simp only[St.val];go_wp2_with fail;obtain⟨W6,V,D,KY⟩:∃W,L.alloc (.cells #[.slice y.on.a y.on.n y.on.c,.slice y.os.a y.os.n y.os.c,.slice y.hs.a y.hs.n y.hs.c,.slice y.ms.a y.ms.n y.ms.c,.slice y.si.a y.si.n y.si.c,.slice y.so.a y.so.n y.so.c,.slice y.sf.a y.sf.n y.sf.c] 31)=W/\Below L.heap.size L W/\Blk W L.heap.size 31 7 (λj=>y.cells.getD j default):=⟨_,rfl,brf.alloc nlr _,Blk.mk' rfl rfl⟩;rw[V];have A:=hid (h.out.trans (D.mono h.out.size));have u:=qa2 (HY.out.below D) KY;clear V D KY h HY;refine(Hb lx3 W6 (Hs.none W6) (Qxz _)).mono ?_;rintro e w7 ⟨rfl,b⟩;have E:=hid (A.out.trans (b.mono A.out.size));have l:=qa2 (u.out.1.below b) (u.out.2.below b);clear b A u;rw[lw3];go_wp2_with fail;refine(Rz w7).mono ?_;rintro e w8 ⟨Q,M,rfl,-,-,q,m,b⟩;have p:=hid (E.out.trans (b.mono E.out.size));have F:=qa2 (l.out.1.below b) (l.out.2.below b);have ac:Hid ((p8 Q M).At w8):=X5 q m;clear b E l q m;go_wp2_with fail;refine(Yo w8).mono ?_;rintro e J ⟨g,rfl,-,hb,b⟩;have s:=hid (p.out.trans (b.mono p.out.size));have k:=qa2 (F.out.1.below b) (F.out.2.below b);have o:Hid ((p8 Q M).At J/\(Fl g 2 0).At J):=⟨ac.out.below b,abh hb⟩;clear b hb p F ac;go_wp2_with fail;refine(Lc (p8 Q M) (Fl g 2 0) lx0 J o.out.1 o.out.2 (Hs.none J)).mono ?_;rintro e P ⟨v,rfl,-,-,-,b⟩;have x:=hid (s.out.trans (b.mono s.out.size));have G:=qa2 (k.out.1.below b) (k.out.2.below b);clear b s k o;rw[show doE (p8 Q M) (Fl g 2 0) lx0=8 from rfl];simp only[St.val];obtain⟨Wb,X,d⟩:∃W,P.alloc (.cells #[.slice v.on.a v.on.n v.on.c,.slice v.os.a v.os.n v.os.c,.slice v.hs.a v.hs.n v.hs.c,.slice v.ms.a v.ms.n v.ms.c,.slice v.si.a v.si.n v.si.c,.slice v.so.a v.so.n v.so.c,.slice v.sf.a v.sf.n v.sf.c] 31)=W/\Below P.heap.size P W:=⟨_,rfl,brf.alloc nlr _⟩;have U:Hid (P.alloc (.cells #[.slice v.on.a v.on.n v.on.c,.slice v.os.a v.os.n v.os.c,.slice v.hs.a v.hs.n v.hs.c,.slice v.ms.a v.ms.n v.ms.c,.slice v.si.a v.si.n v.si.c,.slice v.so.a v.so.n v.so.c,.slice v.sf.a v.sf.n v.sf.c] 31)=Wb):=X;have ak:=hid (x.out.trans (d.mono x.out.size));obtain⟨m1,p0,p1,p2,p3,p4,p5,p6⟩:=Boxed.of (G.out.2.below d);obtain⟨r1,r2,r3,r4⟩:=ab.out;obtain⟨ob,oo,oa,ol,oc,T⟩:=(G.out.1.below d).on.rows 1 r1;obtain⟨ib,io,ia,il,ic⟩:=T.ints 0 r2;rw[r3,Nat.add_zero] at ic;rw[oa] at p0;rw[ia] at oc;have q1:(1:Int)<(y.on.n:Int):=by omega
 have q2:(0:Int)<((y.on.r 1).n:Int):=by omega
 have q4:(y.os.n:Int)=1:=by omega
 clear r1 r2 r3 r4 ab G x d X oa ia T;rw[<-U.out] at m1 p0 p1 p2 p3 p4 p5 p6 ol oc il ic;go_wp2_with fail;rw[U.out];go_ret;exact⟨by simp,ak.out⟩
theorem Hs.At.congr{w:World}{s:Hs}{z':Nat->Hd}{n:Nat}(h:s.At w)(d:s.n=n)(b:∀j,j<s.n->s.z j=z' j):Hs.At w ⟨s.a,n,s.c,z'⟩:=by
 subst d;refine⟨h.le,h.cap,λi hi => ?_,h.nilc⟩;have:=h.hds i hi;rw[b i hi] at this;exact this
theorem Xz(s:Hs)(h:Hd)(w:World)(hs:s.At w)(g:aw s.n (cz s.z)=false)(p:gx h=true):
  Calls prog 119 #[s.val,.int .i64 h.o,.int .i64 h.l,.int .i64 h.b,.int .i64 (keptV s.n s.z h.o h.l h.b+h.n)] w λe B=>∃q:Hs,e = .returned q.val/\cy w.heap.size 61 B q/\q.n=pn s.n s.z h/\q.z=xy s.n s.z h/\Below w.heap.size w B:=by
 obtain⟨J,E,D⟩:=Nt g p;have m:=cx p;by_cases i:keptV s.n s.z h.o h.l h.b=0
 .have no:=S8 g i;have r:∀j,jc s.n s.z h<=j->j<s.n->ba h<ba (s.z j):=λj k d=>by
   have a:=D j k d;have b:¬ba (s.z j)=ba h:=λe=>by
    have:=H9 (ca g j d) p e;rw[no j d] at this;cases this
   omega
  rw[i,Int.zero_add];have t:pn s.n s.z h=s.n+1:=if_pos i;have u:xy s.n s.z h=lw s.z (jc s.n s.z h) h:=if_pos i;rw[t,u];exact X4 s h (jc s.n s.z h) w hs g (Mq p) J (λF=>r _ nlr F) (by omega) E (λj k d=>r j (by omega) d)
 obtain⟨v,y,H,x,A⟩:=rp g i;have f:ba (s.z (jg s.n s.z h.o h.l h.b))=ba h:=Dy (n:=h.n) y;have G:jg s.n s.z h.o h.l h.b=jc s.n s.z h:=by
  rcases Nat.lt_trichotomy (jg s.n s.z h.o h.l h.b) (jc s.n s.z h) with c|c|c
  .have:=E _ c;omega
  .exact c
  have:=x _ c;have:=D _ nlr (by omega);omega
 rw[G] at v y H x A f;have K:=cx (ca g _ v);have t:pn s.n s.z h=s.n:=if_neg i;have u:xy s.n s.z h=qu s.z (jc s.n s.z h) ⟨h.o,h.l,h.b,keptV s.n s.z h.o h.l h.b+h.n⟩:=if_neg i;rw[t,u];exact Pg s ⟨h.o,h.l,h.b,keptV s.n s.z h.o h.l h.b+h.n⟩ (jc s.n s.z h) w hs g ⟨m.1,m.2.1,m.2.2.1⟩ v f (by show ¬keptV s.n s.z h.o h.l h.b+h.n=0;omega) (λj k=>by have:=x j k;rw[f] at this;exact this) (λj k d=>by have:=A j k d;rw[f] at this;exact this)
theorem Q7(s:Hs)(o l b:Int)(w:World)(hs:s.At w):
  Calls prog 118 #[s.val,.int .i64 o,.int .i64 l,.int .i64 b] w λe a=>e = .returned (.int .i64 (keptV s.n s.z o l b))/\Below w.heap.size w a :=
 (Md s o l b w hs).mono λe a h=>⟨h.1,by rw[h.2];exact Below.refl _ _⟩
def oy(p:Pl)(but:Int)(k:Nat):List Int:=((fu p).take k).filter (λb => !(b==but))
theorem Xy{p:Pl}{but:Int}{k:Nat}(a:k<(fu p).length):oy p but (k+1)=oy p but k++if (fu p).getD k 0=but then [] else [(fu p).getD k 0]:=by
 unfold oy;rw[List.take_add_one,List.getElem?_eq_getElem a,List.filter_append];have e:(fu p).getD k 0=(fu p)[k]:=by simp[List.getD,List.getElem?_eq_getElem a]
 rw[e]
 congr 1
 by_cases h:(fu p)[k]=but<;>simp[h]
theorem Zs(p:Pl)(but:Int):oy p but (fu p).length=fa p but:=by unfold oy fa;rw[List.take_length]
theorem Vn(p:Pl)(but:Int)(k:Nat):(oy p but k).Pairwise (λx y=>¬x=y):=(((Ry p).imp λh=>h.1).sublist (List.take_sublist _ _)).filter _
theorem Rv{p:Pl}{but x:Int}{k:Nat}(h:x∈oy p but k):x∈(fu p).take k:=(List.mem_filter.1 h).1
theorem Jh{p:Pl}{but x:Int}{k:Nat}(h:x∈oy p but k):0<=x/\x<p.nb:=Fa (List.mem_of_mem_take (Rv h))
theorem Zt{p:Pl}{but:Int}{k:Nat}(b:k<(fu p).length):(fu p).getD k 0 ∉ oy p but k:=λh=>by
 have c:=Rv h;have e:(fu p).getD k 0=(fu p)[k]:=by simp[List.getD,List.getElem?_eq_getElem b]
 rw[e] at c;obtain⟨j,f,a⟩:=List.mem_iff_getElem.1 c;rw[List.length_take] at f;rw[List.getElem_take] at a;have d:=List.pairwise_iff_getElem.1 (Ry p) j k (by omega) b (by omega);exact d.1 a
def Py(s:St)(o l:Nat)(n:Int)(t:Tk)(F:List Int)(A BX BL g:Nat)(wk:World):Prop :=
 ∃x:St,er s o l n t x/\ai A wk x/\Blk wk BX 31 7 (λj=>x.cells.getD j default)/\Blk wk g 3 F.length (λj => .int .i64 (F.getD j 0))/\(x.os.z o).ls.a=some ⟨BL,0,none⟩/\Blk wk (BX+1) 31 7 (λ_ => .slice .none 0 0)
def sj(w wk:World):Prop:=∀(q:Nat) (t:TypeId) (m:Nat) (f:Nat->Value),t≠59->Blk w q t m f->Blk wk q t m f
theorem sj.below{w a b:World}(h:sj w a)(c:Below a.heap.size a b):sj w b:=λq t m f d e=>(h q t m f d e).below c
theorem sj.refl(w:World):sj w w:=λ_ _ _ _ _ h=>h
theorem sj.setNew{w b:World}(h:sj w b){B:Nat}(e:w.heap.size<=B)(j:Nat)(u:Value):sj w (b.setCell ⟨B,j,none⟩ u):=λq t m f d c=>(h q t m f d c).other (a:=⟨B,j,none⟩) (by have:=c.lt;show q≠B;omega) u
theorem sj.setLine{w b:World}(h:sj w b){B n:Nat}{z:Nat->Value}(e:Blk b B 59 n z)(j:Nat)(u:Value):sj w (b.setCell ⟨B,j,none⟩ u):=λq t m f c d=>(h q t m f c d).other (a:=⟨B,j,none⟩) (Blk.ne2 (h q t m f c d) e c) u
def I5(A:Nat)(x:Hs)(h:Hd)(v:Value)(g:List Nat)(wk:World):Prop:=∃y:Hs,g=[]/\v = .slice y.a y.n y.c/\cy A 61 wk y/\y.n=pn x.n x.z h/\y.z=xy x.n x.z h
theorem I5.below{A:Nat}{x:Hs}{h:Hd}{v:Value}{g:List Nat}{w a:World}(k:I5 A x h v g w)(b:Below w.heap.size w a):I5 A x h v g a:=by
 obtain⟨y,f,e,c,d⟩:=k;exact⟨y,f,e,c.below b,d⟩
theorem Kt(p:Pl)(s:St)(o l A:Nat)(n but:Int)(w:World)(hp:p.At w)(hO:ai A w s)(hA:A<=w.heap.size)(hI:ix p s o l n):
  Calls prog 117 #[p.val,s.val,.int .i64 (o:Int),.int .i64 (l:Int),.int .i64 n,.int .i64 but] w λe L=>∃x:St,e = .returned (.tuple #[x.val,.int .i64 (Tk.go (avT s o l) n (fa p but)).left])/\er s o l n (Tk.go (avT s o l) n (fa p but)) x/\ai A L x/\Below A w L/\sj w L:=by
 obtain⟨W0,hW,a7,X0,Z0⟩:∃W,(((w.alloc (.cells #[.slice p.ab p.nb p.cb,.slice p.sa p.ns p.cs] 25)).alloc (.cells s.cells 31)).alloc (.cells #[.slice .none 0 0,.slice .none 0 0,.slice .none 0 0,.slice .none 0 0,.slice .none 0 0,.slice .none 0 0,.slice .none 0 0] 31))=W/\Below w.heap.size w W/\Blk W (w.heap.size+1) 31 7 (λj=>s.cells.getD j default)/\Blk W (w.heap.size+1+1) 31 7 (λ_ => .slice .none 0 0):=
  ⟨_,rfl,(js _ _ _).alloc (by simp;omega) _,(Blk.mk' (by simp) rfl).alloc _,(Blk.mk' (cur:=#[.slice .none 0 0,.slice .none 0 0,.slice .none 0 0,.slice .none 0 0,.slice .none 0 0,.slice .none 0 0,.slice .none 0 0]) (by simp) rfl).congr (λj hj=>by match j,hj with|0,_=>rfl|1,_=>rfl|2,_=>rfl|3,_=>rfl|4,_=>rfl|5,_=>rfl|6,_=>rfl)⟩
 have HW:Hid (((w.alloc (.cells #[.slice p.ab p.nb p.cb,.slice p.sa p.ns p.cs] 25)).alloc (.cells #[.slice s.on.a s.on.n s.on.c,.slice s.os.a s.os.n s.os.c,.slice s.hs.a s.hs.n s.hs.c,.slice s.ms.a s.ms.n s.ms.c,.slice s.si.a s.si.n s.si.c,.slice s.so.a s.so.n s.so.c,.slice s.sf.a s.sf.n s.sf.c] 31)).alloc (.cells #[.slice .none 0 0,.slice .none 0 0,.slice .none 0 0,.slice .none 0 0,.slice .none 0 0,.slice .none 0 0,.slice .none 0 0] 31)=W0):=hW;have X:Hid (ix p s o l n):=hI;have HP:Hid (p.At W0):=hp.below a7;have leb:=hp.leb;have capb:=hp.capb;have nb1:=hI.fm.sh.pl.nb1;have nb6:=hI.fm.sh.pl.nb6;have ho:=hI.on;have hl:=hI.ln;unfold maxLen at capb;have de:Hid (ai A W0 s/\Blk W0 (w.heap.size+1) 31 7 (λj=>s.cells.getD j default)/\Blk W0 (w.heap.size+1+1) 31 7 (λ_ => .slice .none 0 0)/\Below A w W0):=⟨ai.below hO a7,X0,Z0,a7.mono hA⟩;clear hW X0 Z0 hp hO hI;unfold Pl.val St.val;go_enter func117,ntmps117;go_wp2_with fail;rw[HW.out];refine(Qa p W0 HP.out nb6).mono ?_;rintro e w1 ⟨v,rfl,bd,al⟩;have fc:Hid ((fu p).length=p.nb):=Tl p;have hv:v ≠ .slice none 0 0:=by
  rintro rfl;rcases bd.2 with⟨_,h0⟩|⟨g2,g9,gv,h,_⟩
  .have:=fc.out;omega
  cases h
 obtain⟨g,c,rfl,hf,e9,hg,hk⟩:=Blk.ofOwns bd hv;have d4:Blk w1 g 3 (fu p).length (λj => .int .i64 ((fu p).getD j 0)):=by
  have h:=hk.less (m:=(fu p).length) (by omega);refine h.congr λj hj => ?_;simp[List.getD,List.getElem?_eq_getElem hj]
 obtain⟨df,X0,Z0,db⟩:=de.out;have a1:=ai.below df al;have X1:=X0.below al;have Z1:=Z0.below al;have da:=db.trans (al.mono (Qzx hA a7.size));obtain⟨gO,H,f1,f2,f3,f4,f5,f6,f7,f8,f9,cq,bo,bx,b9,bh⟩:=a1.lineCell ho hl;have cr:Hid (Py s o l n (Tk.go (avT s o l) n (oy p but 0)) (fu p) A (w.heap.size+1) H g w1):=⟨s,er.start X.out.fm.hold ⟨⟨rfl,λ_ _=>⟨rfl,λ_ _=>rfl⟩⟩,⟨rfl,λ_ _=>⟨rfl,rfl,λ_ _=>rfl⟩⟩,⟨rfl,λ_ _=>rfl⟩,⟨rfl,λ_ _=>rfl⟩,⟨rfl,λ_ _=>rfl⟩,⟨rfl,λ_ _=>rfl⟩,⟨rfl,λ_ _=>rfl⟩⟩,a1,X1,d4,f5,Z1⟩;have ag:Hid (sj w w1):=((sj.refl w).below a7).below al;have d2:Hid (Below A w w1/\A<=H/\w.heap.size+1<W0.heap.size/\W0.heap.size<=g):=⟨da,f6,X0.lt,hg⟩;have s1:w1.cell? ⟨w.heap.size+1,1,none⟩=some (.slice s.os.a s.os.n s.os.c):=X1.k 1;have s2:=X1.lt;have v1:=a1.os.le;have v2:=a1.os.cap;rw[f1] at s1;unfold maxLen at v2 f9 e9;have qo:(0:Int)<=(o:Int):=by omega
 have ql:(0:Int)<=(l:Int):=by omega
 have dp:=X.out.good;obtain⟨gd,bw⟩:=Qzz dp.1;have dd:Hid (((s.os.z o).ls.z l).o=(gd:Int)):=bw;have cg:gd<p.ns:=by omega
 rw[bw] at bo;clear bd hv hk d4 df X0 Z0 db a1 X1 Z1 da f1 f2 f5 f6 cq bx b9 bh de HW HP al dp bw hg;go_wp2_with fail;clear s1 s2 f3 f4 f7 f8 f9 bo v1 v2
 go_loopw [4,16] (λnv kv E=>∃k:Nat,k<=(fu p).length/\kv = .int .i64 k/\nv = .int .i64 (Tk.go (avT s o l) n (oy p but k)).left/\Hid (Py s o l n (Tk.go (avT s o l) n (oy p but k)) (fu p) A (w.heap.size+1) H g E)/\Hid (Below A w E)/\Hid (sj w E)) (λ_ kv _=>(fu p).length-(intOf kv).toNat)
 case atStart=>exact⟨0,Qxz _,rfl,rfl,cr,d2.out.1,ag⟩
 clear cr ag;obtain⟨k,hk,rfl,rfl,HV,a0,ag⟩:=hrel;have ao:Hid (zu (avT s o l) n (oy p but k) (Tk.go (avT s o l) n (oy p but k))):=X.out.tk (Vn p but k) (λx hx=>Jh hx);have Y:Hid (k<(fu p).length->Tk.go (avT s o l) n (oy p but (k+1))=if (fu p).getD k 0=but then Tk.go (avT s o l) n (oy p but k) else(Tk.go (avT s o l) n (oy p but k)).step (avT s o l) ((fu p).getD k 0)):=λh=>by
  rw[Xy h];by_cases hb:(fu p).getD k 0=but
  .rw[if_pos hb,if_pos hb,List.append_nil]
  rw[if_neg hb,if_neg hb,Tk.go_more]
 have aq:Hid (k=(fu p).length->Tk.go (avT s o l) n (oy p but k)=Tk.go (avT s o l) n (fa p but)):=λh=>by rw[h,Zs]
 obtain⟨x,hx⟩:=HV.out;have F:Hid (er s o l n (Tk.go (avT s o l) n (oy p but k)) x/\ai A wr x/\Blk wr (w.heap.size+1) 31 7 (λj=>x.cells.getD j default)/\Blk wr g 3 (fu p).length (λj => .int .i64 ((fu p).getD j 0))/\(x.os.z o).ls.a=some ⟨H,0,none⟩/\Blk wr (w.heap.size+1+1) 31 7 (λ_ => .slice .none 0 0)):=hx;obtain⟨T,dy⟩:∃T,Tk.go (avT s o l) n (oy p but k)=T:=⟨_,rfl⟩;rw[dy] at ao Y aq F ⊢;clear hx HV dy;have fn:=ao.out.left0;have ew:=ao.out.leftn;have h8:=X.out.bk;by_cases a4:k<(fu p).length;rotate_left
 .have e4:k=(fu p).length:=by omega
  have HT:Hid (T=Tk.go (avT s o l) n (fa p but)):=aq.out e4;clear aq Y;have KX:=F.out.2.2.1;obtain⟨m1,p0,p1,p2,p3,p4,p5,p6⟩:=Boxed.of KX;have hz:=F.out.2.2.2.2.2;obtain⟨zl,hh,hr,he,zc1,hu,zc2,hm,zc3,ht,zc4,hy,zc5,hw,hi⟩:=z7 hz;clear KX hz;go_wp2_with fail;have KZ:=s7b F.out.2.2.2.2.2 x;have d6:=s7w (b:=w.heap.size+1+1) a0.out (by omega) x;have dh:=s7o F.out.2.1 F.out.2.2.2.2.2 x;unfold set7 at KZ d6 dh;obtain⟨ge,gc,fz,fb,gg,gm,fw⟩:=cn KZ;refine Xzq (v := .tuple #[x.val,.int .i64 T.left]) (by simp[results,results117,go_sem,St.val,ge,gc,fz,fb,gg,gm,fw]) rfl ?_;rw[<-HT.out];refine⟨x,rfl,F.out.1,dh,d6,?_⟩;exact((((((ag.out.setNew (by omega) 0 _).setNew (by omega) 1 _).setNew (by omega) 2 _).setNew (by omega) 3 _).setNew (by omega) 4 _).setNew (by omega) 5 _).setNew (by omega) 6 _
 have bn:Hid _:=Y.out a4;obtain⟨a9,ba⟩:=Fa (List.mem_iff_getElem.2 ⟨k,a4,rfl⟩:(fu p)[k]∈fu p);have di:(fu p).getD k 0=(fu p)[k]:=by simp[List.getD,List.getElem?_eq_getElem a4]
 have z0:=F.out.2.2.2.1.cell (j:=k) a4;have z1:=F.out.2.2.2.1.lt;rw[<-di] at a9 ba;obtain⟨r,ap⟩:=Qzz a9;have bm:Hid ((fu p).getD k 0=(r:Int)):=ap;rw[ap] at z0 ba;have ax:r<p.nb:=by omega
 have be:=Zt (but:=but) a4;rw[ap] at be;have ft:Hid (cv p x):=X.out.formed (λx hx=>Jh hx) ao.out F.out.1;have gf:Hid (ar x r gd=avT s o l r):=by
  have h:=X.out.availAt (λx hx=>Jh hx) ao.out F.out.1 ax be;rw[dd.out] at h;exact h
 have hq : -20000<=avT s o l r/\avT s o l r<=200:=by
  have f:=X.out.fm;have h1:=f.sh.num r (by rw[f.sh.n];exact ax) gd cg;have h2:=mr (s:=s) (b:=r) (g:=gd) f.holdN;have h3:=jq (s:=s) (b:=r) (g:=gd) f.moveN;have h4:=f.hs72;have h5:=f.ms8;unfold avT;rw[dd.out];show -20000<=ar s r gd/\ar s r gd<=200;unfold ar;omega
 have cl:Hid (avT s o l ((fu p).getD k 0)=avT s o l r):=by show avT s o l ((fu p).getD k 0)=_;rw[ap]
 generalize hAVd:avT s o l (r:Int)=AV at *
 clear hAVd be a9 ba di;have q0:(0:Int)<=(k:Int):=by omega
 obtain⟨N,hN⟩:∃N,T.left=N:=⟨_,rfl⟩;have HN:Hid (T.left=N):=hN;rw[hN] at fn ew ⊢;clear hN;have cf:Hid (∀m,min N AV=m->min T.left (avT s o l ((fu p).getD k 0))=m):=λm h=>by rw[cl.out,HN.out];exact h
 rw[ap] at bn;clear ap Y aq;have h7:N<=200:=by
  have:=X.out.sum;have:=(ro (z:=s.hs.z) o l s.hs.n λj hj=>(cx (ca X.out.fm.hold j hj)).2.2.2).1;omega
 by_cases S:(r:Int)=but
 .have e6:((r:Int)==but)=true:=by simpa using S
  have P:Hid (Tk.go (avT s o l) n (oy p but (k+1))=T):=by
   show Tk.go (avT s o l) n (oy p but (k+1))=T;rw[bn.out,if_pos S]
  clear S;go_wp2_with fail;go_roundw
  case rel=>exact⟨k+1,by omega,by go_num,by rw[P.out,HN.out],by rw[P.out];exact⟨x,F.out⟩,a0,ag⟩
  case measure=>simp[intOf];omega
 have e6:((r:Int)==but)=false:=by simpa using S
 have bp:Hid (Tk.go (avT s o l) n (oy p but (k+1))=T.step (avT s o l) (r:Int)):=by
  show Tk.go (avT s o l) n (oy p but (k+1))=_;rw[bn.out,if_neg S]
 clear S bn;have KX:=F.out.2.2.1;obtain⟨m1,p0,p1,p2,p3,p4,p5,p6⟩:=Boxed.of KX;have dg:Hid (Calls prog 120 #[x.val,.int .i64 (r:Int),.int .i64 (gd:Int)] wr λe L=>e = .returned (.int .i64 AV)/\Below wr.heap.size wr L):=by
  have h:=Jl p x r gd wr F.out.2.1.at ft.out ax cg;rw[gf.out] at h;exact h
 clear KX;go_wp2_with fail;refine dg.out.mono ?_;rintro e w9 ⟨rfl,ah⟩;clear m1 p0 p1 p2 p3 p4 p5 p6 dg z0 z1;have aa:Hid (Below A w w9):=a0.out.trans (ah.mono (Qzx hA a0.out.size));have u:Hid (er s o l n T x/\ai A w9 x/\Blk w9 (w.heap.size+1) 31 7 (λj=>x.cells.getD j default)/\Blk w9 g 3 (fu p).length (λj => .int .i64 ((fu p).getD j 0))/\(x.os.z o).ls.a=some ⟨H,0,none⟩/\Blk w9 (w.heap.size+1+1) 31 7 (λ_ => .slice .none 0 0)):=⟨F.out.1,ai.below F.out.2.1 ah,F.out.2.2.1.below ah,F.out.2.2.2.1.below ah,F.out.2.2.2.2.1,F.out.2.2.2.2.2.below ah⟩;have bb:Hid (sj w w9):=ag.out.below ah;clear F a0 ah ag;by_cases dr:min N AV<=0
 .have fo:min N AV=0:=by
   have:=X.out.av r ax;have e:avT s o l (r:Int)=ar s r ((s.os.z o).ls.z l).o.toNat:=rfl;have:=cl.out;rw[bm.out,e] at this;omega
  have g1:¬0<min N AV:=by omega
  have g2:decide (0<min N AV)=false:=decide_eq_false g1;have P:Hid (Py s o l n (Tk.go (avT s o l) n (oy p but (k+1))) (fu p) A (w.heap.size+1) H g w9/\(Tk.go (avT s o l) n (oy p but (k+1))).left=N):=by
   have e0:min T.left (avT s o l (r:Int))=0:=by have h:=cf.out 0 fo;rw[bm.out] at h;exact h
   refine⟨⟨x,?_,u.out.2⟩,?_⟩
   .rw[bp.out];exact u.out.1.stepZero e0
   rw[bp.out];show T.left-min T.left _=N;rw[e0,HN.out];omega
  clear dr;go_wp2_with fail;go_roundw
  case rel=>exact⟨k+1,by omega,by go_num,by rw[P.out.2],P.out.1,aa,bb⟩
  case measure=>simp[intOf];omega
 obtain⟨t,dn⟩:∃t,min N AV=t:=⟨_,rfl⟩;have c9:Hid (min N AV=t):=dn;have dk:0<t:=by omega
 have gh:t<=N:=by omega
 have g2:decide (0<t)=true:=decide_eq_true dk;have bj:Hid (gx (kg o l r t)=true/\keptV x.hs.n x.hs.z o l r+t<=200/\addE x.hs.n x.hs.z (kg o l r t)=0):=X.out.addE (λx hx=>Jh hx) ao.out u.out.1 (b:=(r:Int)) ⟨by omega,by omega⟩ dk (by rw[HN.out];exact gh);have ex:=(C7 (λj hj=>(cx (ca u.out.1.right j hj)).2.2.2) (o:Int) (l:Int) (r:Int)).1;have fy:=bj.out.2.1;obtain⟨KV,b6⟩:∃KV,keptV x.hs.n x.hs.z o l r=KV:=⟨_,rfl⟩;have c7:Hid (keptV x.hs.n x.hs.z o l r=KV):=b6;rw[b6] at ex fy;clear b6;have KX:=u.out.2.2.1;have y2:=Qqq (KX.k 2);have y3:=KX.lt;clear KX dr;go_wp2_with fail;clear dn;refine tc (λL=>∃p:Regrown,L=grow (redrawn w9 p.d) p.os) [0,1,2,3,4,5,6,7,8,9,11] [10,12,13] [(true,14),(true,15)] (Qqx (brf.drew)) ?_;simp only[dv,Qyq,Xqq,Qyx,Qyz,Xqz,Xqx]
 repeat(go_big_quiet_step(fail))
 refine Qqz ?_;clear y2;refine⟨λj v g E=>match j with|10=>g=[]/\v = .int .i64 KV|12=>g=[]/\v = .int .i64 (KV+t)|13=>I5 w9.heap.size x.hs (kg o l r t) v g E|_=>True,
  Qjx ⟨λv g w L hB h=>h,Qjx ⟨λv g w L hB h=>h,Qjx ⟨λv g w L hB h=>I5.below h hB,Qjq _⟩⟩⟩,
  Qjx ⟨λv g w h=>by rw[h.1];intro x hx;simp at hx,Qjx ⟨λv g w h=>by rw[h.1];intro x hx;simp at hx,Qjx ⟨λv g w h=>by obtain⟨_,h1,_⟩:=h;rw[h1];intro x hx;simp at hx,Qjq _⟩⟩⟩,
  Qjx ⟨?zt3,Qjx ⟨?zt4,Qjx ⟨?zt5,Qjq _⟩⟩⟩,?ztdone⟩
 case zt3 =>
  intro V G E K hS hd hA hK;have D:=af hS;refine ay 10 rfl ?_;simp only[am,bu,Qvz,Qwq,Qvx,Act.put,Qvq,Qwx,Qwz] at hK ⊢;have f0:Hid (Calls prog 118 #[.slice x.hs.a x.hs.n x.hs.c,.int .i64 (o:Int),.int .i64 (l:Int),.int .i64 (r:Int)] E λe L=>e = .returned (.int .i64 KV)/\Below E.heap.size E L):=by
   have h:=Q7 x.hs o l r E (u.out.2.1.hs.at.below D);rw[c7.out] at h;exact h
  go_wp2_with fail;refine f0.out.mono ?_;rintro e w2 ⟨rfl,a3⟩;go_wp2_with fail;exact hK _ [] _ (Qqx (D.trans (a3.mono D.size))) a3 (λx hx=>by simp at hx) ⟨rfl,rfl⟩
 case zt4 =>
  intro V G E K hS hd hA hK;obtain⟨-,fs⟩:(G 10=[]/\V 10 = .int .i64 KV):=hd 10 (Qjz (by kernel_rfl)) (by simp);refine ay 12 rfl ?_;simp only[am,bu,Qvz,Qwq,Qvx,Act.put,Qvq,Qwx,Qwz,fs] at hK ⊢;go_wp2_with fail;exact hK _ [] _ hS brf (λx hx=>by simp at hx) ⟨rfl,rfl⟩
 case zt5 =>
  intro V G E K hS hd hA hK;have D:=af hS;have q:=D.size;obtain⟨-,ga⟩:(G 12=[]/\V 12 = .int .i64 (KV+t)):=hd 12 (Qjz (by kernel_rfl)) (by simp);refine ay 13 rfl ?_;simp only[am,bu,Qvz,Qwq,Qvx,Act.put,Qvq,Qwx,Qwz,ga] at hK ⊢;have fk:Hid (Calls prog 119 #[.slice x.hs.a x.hs.n x.hs.c,.int .i64 (o:Int),.int .i64 (l:Int),.int .i64 (r:Int),.int .i64 (KV+t)] E λe L=>∃s':Hs,e = .returned s'.val/\cy E.heap.size 61 L s'/\s'.n=pn x.hs.n x.hs.z (kg o l r t)/\s'.z=xy x.hs.n x.hs.z (kg o l r t)/\Below E.heap.size E L):=by
   have h:=Xz x.hs (kg o l r t) E (u.out.2.1.hs.at.below D) u.out.1.right bj.out.1;rw[show keptV x.hs.n x.hs.z (kg o l r t).o (kg o l r t).l (kg o l r t).b=KV from c7.out] at h;exact h
  go_wp2_with fail;refine fk.out.mono ?_;rintro e w2 ⟨y,rfl,h1,h2,h3,a3⟩;have HR:Hid (cy w9.heap.size 61 w2 y/\y.n=pn x.hs.n x.hs.z (kg o l r t)/\y.z=xy x.hs.n x.hs.z (kg o l r t)):=⟨h1.mono (by omega),h2,h3⟩;clear h1 h2 h3;simp only[Hs.val];go_wp2_with fail;exact hK _ [] _ (Qqx (D.trans (a3.mono D.size))) a3 (λx hx=>by simp at hx) ⟨y,rfl,rfl,HR.out⟩
 case ztdone =>
  intro V G' E hS hD gb;obtain⟨y,-,dt,cd,yn,yz⟩:I5 w9.heap.size x.hs (kg o l r t) (V 13) (G' 13) E:=hD 13 (by simp);have D:=af hS;have dx:Dh x.hs.n x.hs.z (kg o l r t) y:=⟨by rw[if_pos bj.out.2.2];exact yn,λj _=>by rw[yz]⟩;have q9:=aa.out.size;have qa:=D.size;obtain⟨b1,b2,b3,b4⟩:=d2.out;have d0:=ai.below u.out.2.1 D;have KA:=u.out.2.2.1.below D;have FA:=u.out.2.2.2.1.below D;have ZA:=u.out.2.2.2.2.2.below D;have ch:=aa.out.trans (D.mono (Qzx hA aa.out.size));have Q:o<x.os.n:=by rw[u.out.1.os.1];exact ho
  have cp:=(d0.withHolds (cd.mono (by omega))).box KA 2 (.slice y.a y.n y.c);have KB:=KA.set 2 (.slice y.a y.n y.c);have FB:=FA.other (a:=⟨w.heap.size+1,2,none⟩) (Blk.ne2 FA KA (by decide)) (.slice y.a y.n y.c);have ZB:=ZA.other (a:=⟨w.heap.size+1,2,none⟩) (by show w.heap.size+1+1≠w.heap.size+1;omega) (.slice y.a y.n y.c);have b0:=ch.setCell (p:=⟨w.heap.size+1,2,none⟩) (by show A<=w.heap.size+1;omega) (.slice y.a y.n y.c);have an:l<(x.os.z o).ls.n:=by rw[(u.out.1.os.2 o Q).2.1];exact hl
  have d1:=u.out.1.stepAdd (av:=avT s o l) (order:=o) (line:=l) (b:=(r:Int)) (m:=t) ho hl (by have h:=cf.out t c9.out;rw[bm.out] at h;exact h) bj.out.2.2 dx;have co:=(bb.out.below D).setNew (B:=w.heap.size+1) (by omega) 2 (.slice y.a y.n y.c);have z1:=KA.lt;have z2:=KA.frozen 2;have z3:=KA.k 2;obtain⟨U,b8⟩:∃U,E.setCell ⟨w.heap.size+1,2,none⟩ (.slice y.a y.n y.c)=U:=⟨_,rfl⟩;have d5:Hid (E.setCell ⟨w.heap.size+1,2,none⟩ (.slice y.a y.n y.c)=U):=b8;rw[b8] at cp KB FB ZB b0 co;have cc:Hid (sj w U):=co;have J:Hid (ai A U (withHolds x y)/\Blk U (w.heap.size+1) 31 7 (λi=>if i=2 then .slice y.a y.n y.c else x.cells.getD i default)/\Blk U g 3 (fu p).length (λj => .int .i64 ((fu p).getD j 0))/\Blk U (w.heap.size+1+1) 31 7 (λ_ => .slice .none 0 0)/\Below A w U/\er s o l n (T.step (avT s o l) r) (withHolds (setLine x o l 3 (((x.os.z o).ls.z l).n-t)) y)):=⟨cp,KB,FB,ZB,b0,d1⟩;have c8:Hid (o<x.os.n/\l<(x.os.z o).ls.n/\(x.os.z o).ls.a=some ⟨H,0,none⟩/\A<=H):=⟨Q,an,u.out.2.2.2.2.1,b2⟩;have b7:Hid (((x.os.z o).ls.z l).n=((s.os.z o).ls.z l).n-(n-T.left)):=by
   show((x.os.z o).ls.z l).n=_;rw[(u.out.1.os.2 o Q).2.2 l an,if_pos ⟨rfl,rfl⟩]
   rfl
  clear co bb hS hD gb D d0 KA FA ZA ch cp KB FB ZB b0 d1 cd yn yz dx b8 Q an u aa;simp only[am,bu,Qvz,Qwq,Qvx,Act.put,Qvq,Qwx,Qwz,dt];refine dj 14 rfl ?_;go_wp2_with fail;refine⟨jp.yes,?_⟩;refine dj 15 rfl ?_;go_wp2_with fail;refine⟨jp.yes,?_⟩;refine NoPanic.normal ?_;rw[d5.out];clear z1 z2 z3 d5 dt b1 b2 b3 b4 q9 qa;obtain⟨Q,an,ck,h6⟩:=c8.out;obtain⟨gO,fr,f1,f2,f3,f4,f5,f6,f7,f8,f9,cq,bo,bx,b9,bh⟩:=J.out.1.lineCell (o:=o) (l:=l) Q an;have cm:(x.os.z o).ls.a=some ⟨fr,0,none⟩:=f5;rw[ck] at cm;simp only[Qkx,Qkz,and_true] at cm;subst cm;have bg:Hid (((withHolds x y).os.z o).ls.a=some ⟨H,0,none⟩):=f5;have s1:U.cell? ⟨w.heap.size+1,1,none⟩=some (.slice x.os.a x.os.n x.os.c):=J.out.2.1.k 1;have dl:x.os.a=some ⟨gO,0,none⟩:=f1;rw[dl] at s1;have dc:U.cell? ⟨gO,o*2+1,none⟩=some (.slice (some ⟨H,0,none⟩) (x.os.z o).ls.n (x.os.z o).ls.c):=f4;have a8:U.cell? ⟨H,l*4+3,none⟩=some (.int .i64 ((x.os.z o).ls.z l).n):=bh;obtain⟨M,bl⟩:∃M,((x.os.z o).ls.z l).n=M:=⟨_,rfl⟩;have dw:Hid (((x.os.z o).ls.z l).n=M):=bl;have hn : -1000<=M/\M<=1000:=by
   rw[<-bl,b7.out];have:=dz (X.out.fm.line o ho l hl);have:=HN.out;omega
  rw[bl] at a8;have v1:x.os.n<=x.os.c:=J.out.1.os.le;have v2:x.os.c<=maxLen:=J.out.1.os.cap;have v3:(x.os.z o).ls.n<=(x.os.z o).ls.c:=f8;have v4:(x.os.z o).ls.c<=maxLen:=f9;unfold maxLen at v2 v4;have t1:=Qqq s1;have t2:=Qqq dc;have t3:=Qqq a8;clear bl f1 f2 f3 f4 f5 f6 f7 f8 f9 cq bo bx b9 bh s1 dl dc a8 ck c8 b7;go_wp2_with fail;refine jt (λL=>∃p:Regrown,L=grow (redrawn U p.d) p.os) (List.range 21) [] [(true,21)] (Qqx (brf.drew)) ?_;rw[show List.range 21=[0,1,2,3,4,5,6,7,8,9,10,11,12,13,14,15,16,17,18,19,20] from rfl];simp only[dv,Qyq,Xqq,Qyx,Qyz,Xqz,Xqx]
  repeat(go_big_quiet_step(fail))
  refine Qqz ?_;clear t1 t2 t3;refine⟨λ_ _ _ _=>True,Qjq _,Qjq _,Qjq _,λV G wj hS _ _ => ?_⟩;have D:=af hS;have bi:=ai.below J.out.1 D;have Kj:=J.out.2.1.below D;have Fj:=J.out.2.2.1.below D;have Zj:=J.out.2.2.2.1.below D;have dq:=J.out.2.2.2.2.1.trans (D.mono (Qzx hA J.out.2.2.2.2.1.size));obtain⟨B',bc,-,-,-,ac⟩:=bi.os.lines o Q;rw[bg.out] at bc;simp only[Qkx,Qkz,and_true] at bc;subst bc;have zl:=ac.lt;have zf:=ac.frozen (l*4+3);obtain⟨gq,Bq,-,-,-,-,g5,-,-,-,-,-,-,-,-,zc⟩:=bi.lineCell (o:=o) (l:=l) Q an;rw[bg.out] at g5;simp only[Qkx,Qkz,and_true] at g5;subst g5;have du:=bi.setLine (o:=o) Q bg.out l 3 (by decide) (M-t);have KC:=Kj.other (a:=⟨H,l*4+3,none⟩) (Blk.ne2 Kj ac (by decide)) (.int .i64 (M-t));have FC:=Fj.other (a:=⟨H,l*4+3,none⟩) (Blk.ne2 Fj ac (by decide)) (.int .i64 (M-t));have ZC:=Zj.other (a:=⟨H,l*4+3,none⟩) (Blk.ne2 Zj ac (by decide)) (.int .i64 (M-t));have d3:=(cc.out.below D).setLine ac (l*4+3) (.int .i64 (M-t));have ds:=dq.setCell (p:=⟨H,l*4+3,none⟩) (by show A<=H;omega) (.int .i64 (M-t));have P:Hid (Py s o l n (Tk.go (avT s o l) n (oy p but (k+1))) (fu p) A (w.heap.size+1) H g (wj.setCell ⟨H,l*4+3,none⟩ (.int .i64 (M-t)))/\(Tk.go (avT s o l) n (oy p but (k+1))).left=N-t/\Below A w (wj.setCell ⟨H,l*4+3,none⟩ (.int .i64 (M-t)))/\sj w (wj.setCell ⟨H,l*4+3,none⟩ (.int .i64 (M-t)))):=by
   refine⟨⟨withHolds (setLine x o l 3 (M-t)) y,?_,du,KC.congr (λj hj=>by match j,hj with|0,_=>rfl|1,_=>rfl|2,_=>rfl|3,_=>rfl|4,_=>rfl|5,_=>rfl|6,_=>rfl),FC,?_,ZC⟩,?_,ds,d3⟩
   .rw[bp.out];have h:=J.out.2.2.2.2.2;rw[dw.out] at h;exact h
   .exact((dm (s:=x) (o:=o) (l:=l) (c:=3) (v:=M-t) o).2.1).trans bg.out
   rw[bp.out];show T.left-min T.left _=N-t;have h:=cf.out t c9.out;rw[bm.out] at h;rw[h,HN.out]
  clear bi Kj Fj Zj dq ac du KC FC ZC ds d3 cc D hS J;have gk:wj.cell? ⟨H,l*4+3,none⟩=some (.int .i64 ((x.os.z o).ls.z l).n):=zc;rw[dw.out] at gk;clear zc;simp only[am];refine dj 21 rfl ?_;go_wp2_with fail;refine⟨jp.yes,?_⟩;refine NoPanic.normal ?_;go_wp2_with fail;go_roundw
  case rel=>exact⟨k+1,by omega,by go_num,by rw[P.out.2.1],P.out.1,P.out.2.2.1,P.out.2.2.2⟩
  case measure=>simp[intOf];omega
theorem Kb(p:Pl)(s:St)(w:World)(hp:p.At w)(hs:s.At w):
  Calls prog 55 #[p.val,s.val] w λe U=>∃x:St,e = .returned (.tuple #[x.val,.int .i64 (ag p s)])/\x.At U/\Fg p s x/\(ag p s=0->ai w.heap.size U x)/\Below w.heap.size w U:=by
 obtain⟨y,hW,bf,X0,Z0⟩:∃W,(((w.alloc (.cells #[.slice p.ab p.nb p.cb,.slice p.sa p.ns p.cs] 25)).alloc (.cells s.cells 31)).alloc (.cells #[.slice .none 0 0,.slice .none 0 0,.slice .none 0 0,.slice .none 0 0,.slice .none 0 0,.slice .none 0 0,.slice .none 0 0] 31))=W/\Below w.heap.size w W/\lq W w.heap.size (w.heap.size+1) p s/\Blk W (w.heap.size+2) 31 7 (λ_ => .slice .none 0 0):=
  ⟨_,rfl,(js _ _ _).alloc (by simp;omega) _,(nk w p s _ _).below (brf.alloc nlr _),(Blk.mk' (cur:=#[.slice .none 0 0,.slice .none 0 0,.slice .none 0 0,.slice .none 0 0,.slice .none 0 0,.slice .none 0 0,.slice .none 0 0]) (by simp) rfl).congr (λj hj=>by match j,hj with|0,_=>rfl|1,_=>rfl|2,_=>rfl|3,_=>rfl|4,_=>rfl|5,_=>rfl|6,_=>rfl)⟩
 have HC:Hid (∀G,Below y.heap.size y G->lq G w.heap.size (w.heap.size+1) p s/\p.At G/\s.At G/\Below w.heap.size w G/\Blk G (w.heap.size+2) 31 7 (λ_ => .slice .none 0 0)):=λG h=>⟨X0.below h,(hp.below bf).below h,(hs.below bf).below h,bf.trans (h.mono bf.size),Z0.below h⟩;have HW:Hid (((w.alloc (.cells #[.slice p.ab p.nb p.cb,.slice p.sa p.ns p.cs] 25)).alloc (.cells #[.slice s.on.a s.on.n s.on.c,.slice s.os.a s.os.n s.os.c,.slice s.hs.a s.hs.n s.hs.c,.slice s.ms.a s.ms.n s.ms.c,.slice s.si.a s.si.n s.si.c,.slice s.so.a s.so.n s.so.c,.slice s.sf.a s.sf.n s.sf.c] 31)).alloc (.cells #[.slice .none 0 0,.slice .none 0 0,.slice .none 0 0,.slice .none 0 0,.slice .none 0 0,.slice .none 0 0,.slice .none 0 0] 31)=y):=hW;have leb:=hp.leb;have ch:=hp.capb;have les:=hp.les;have cl:=hp.caps;have capb:=ch;have caps:=cl;have gm:=Z0.lt;unfold maxLen at capb caps;clear hW X0 Z0 hp hs;unfold Pl.val St.val;go_enter func55,ntmps55;go_wp2_with fail;rw[HW.out];obtain⟨X,M,L,D,m⟩:=HC.out y brf;refine(kf p s y M L).mono ?_;rintro e t ⟨rfl,hB⟩;clear X M L D m HW;obtain⟨⟨⟨l1,d0,d1⟩,l2,c0,c1,c2,c3,c4,c5,c6⟩,M,L,D,m⟩:=HC.out t hB;by_cases h0:ag p s=0;rotate_left
 .have dm:Hid (¬ag p s=0):=h0;have g0:(ag p s !=0)=true:=by simpa using h0
  clear h0 M L;have zl:=m.lt;have cp:=m.frozen 0;have c7:=m.k 0;have co:=m.frozen 1;have zc1:=m.k 1;have dc:=m.frozen 2;have zc2:=m.k 2;have ct:=m.frozen 3;have zc3:=m.k 3;have c8:=m.frozen 4;have zc4:=m.k 4;have dq:=m.frozen 5;have zc5:=m.k 5;have dn:=m.frozen 6;have cq:=m.k 6;go_wp2_with fail;have KZ:=rq m (.slice .none 0 0) (.slice .none 0 0) (.slice .none 0 0) (.slice .none 0 0) (.slice .none 0 0) (.slice .none 0 0) (.slice .none 0 0);have a0:=nf (b:=w.heap.size+2) D (by omega) (.slice .none 0 0) (.slice .none 0 0) (.slice .none 0 0) (.slice .none 0 0) (.slice .none 0 0) (.slice .none 0 0) (.slice .none 0 0);unfold set7 at KZ a0;obtain⟨cc,ca,b5,bs,cd,cf,bz⟩:=cn KZ;refine Xzq (v := .tuple #[l8.val,.int .i64 (ag p s)]) (by simp[results,results55,go_sem,l8,St.val,cc,ca,b5,bs,cd,cf,bz]) rfl ?_;exact⟨l8,rfl,vy _,⟨λh=>absurd h dm.out,λ_=>⟨rfl,rfl,rfl,rfl,rfl,rfl,rfl⟩⟩,λh=>absurd h dm.out,a0⟩
 have H0:Hid (ag p s=0):=h0;have HR:Hid (au p s):=ed h0;rw[h0];clear h0;have ea:Hid (w.heap.size<=t.heap.size):=D.size;have dw:Hid (Calls prog 20 #[s.val] t λe U=>∃s':St,e = .returned s'.val/\ae s' s/\ai t.heap.size U s'/\Below t.heap.size t U):=ny p s t L HR.out.fm;clear M L D m;go_wp2_with fail;refine Calls.mono dw.out ?_;rintro e w4 ⟨f,rfl,ad,ak,ba⟩;clear dw l1 d0 d1 l2 c0 c1 c2 c3 c4 c5 c6;obtain⟨W5,db,Q,K5⟩:∃W,w4.alloc (.cells #[.slice f.on.a f.on.n f.on.c,.slice f.os.a f.os.n f.os.c,.slice f.hs.a f.hs.n f.hs.c,.slice f.ms.a f.ms.n f.ms.c,.slice f.si.a f.si.n f.si.c,.slice f.so.a f.so.n f.so.c,.slice f.sf.a f.sf.n f.sf.c] 31)=W/\Below w4.heap.size w4 W/\Blk W w4.heap.size 31 7 (λj=>f.cells.getD j default):=⟨_,rfl,brf.alloc nlr _,Blk.mk' rfl rfl⟩;have dp:Hid (w4.alloc (.cells #[.slice f.on.a f.on.n f.on.c,.slice f.os.a f.os.n f.os.c,.slice f.hs.a f.hs.n f.hs.c,.slice f.ms.a f.ms.n f.ms.c,.slice f.si.a f.si.n f.si.c,.slice f.so.a f.so.n f.so.c,.slice f.sf.a f.sf.n f.sf.c] 31)=W5):=db;have a3:=ba.trans (Q.mono ba.size);have dt:=hB.trans (a3.mono hB.size);have F:Hid (de t.heap.size w4.heap.size y (df f 0) W5):=by
  show de t.heap.size w4.heap.size y (df f 0) W5;rw[Pc];exact⟨ai.below ak Q,K5,dt,a3.size⟩
 have ar:Hid (ae f s):=ad;have A1:y.heap.size<=t.heap.size:=hB.size;have A2:t.heap.size<=w4.heap.size:=ba.size;have ol:f.os.n<=f.os.c:=(ai.below ak Q).os.le;have oc:f.os.c<=maxLen:=(ai.below ak Q).os.cap;unfold maxLen at oc;have ex:f.os.n<=4:=by rw[ad.os.1];exact HR.out.fm.os4
 clear db ak K5 ba Q a3 dt ad hB;simp only[St.val];go_wp2_with fail;rw[dp.out];clear dp
 generalize w4.heap.size=B at *
 go_loopw [8] (λkv G=>∃k:Nat,k<=f.os.n/\kv = .int .i64 k/\Hid (de t.heap.size B y (df f k) G)) (λkv _=>f.os.n-(intOf kv).toNat)
 case atStart=>exact⟨0,Qxz _,rfl,F⟩
 clear F;obtain⟨k,hk,rfl,g⟩:=hrel;have P:wr.cell? ⟨B,1,none⟩=some (.slice f.os.a f.os.n f.os.c):=g.out.box.k 1;have u2:=g.out.box.lt;by_cases r:k<f.os.n
 .have q0:(0:Int)<=(k:Int):=by omega
  have q1:(k:Int)<(f.os.n:Int):=by omega
  obtain⟨gO,V,g2,g3,g4,S,g6⟩:=g.out.own.orderCells (o:=k) r;have ac:f.os.a=some ⟨gO,0,none⟩:=V;have HG:Hid (f.os.a=some ⟨gO,0,none⟩):=V;have ek:(df f k).os.z k=f.os.z k:=uy _ nlr;rw[ek] at g4 S;have bc:Hid ((df f k).os.z k=f.os.z k):=ek;rw[ac] at P;have gf:=g6 (k*2);clear V ac g6 ek;by_cases Y:(f.os.z k).k=0;rotate_left
  .have H:Hid (de t.heap.size B y (df f (k+1)) wr):=by show de _ _ _ (df f (k+1)) _;rw[<-Pb Y];exact g.out
   have fe:((f.os.z k).k !=0)=true:=by simpa using Y
   clear Y S bc
   generalize (f.os.z k).k=KK at *
   go_wp2_with fail;go_roundw
   case rel=>exact⟨k+1,by omega,by go_num,H⟩
   case measure=>simp[intOf];omega
  have aw:Hid ((f.os.z k).k=0):=Y;rw[Y] at g4;have H:Hid (de t.heap.size B y (fg (dh (df f k) k 1) k 0) (wr.setCell ⟨gO,k*2,none⟩ (.int .i64 1))):=by
   show de _ _ _ (fg (dh (df f k) k 1) k 0) _;rw[F3];obtain⟨gq,b1,b2,b3⟩:=g.out.own.os.list (by show 0<f.os.n;omega);have bq:f.os.a=some ⟨gq,0,none⟩:=b1;rw[HG.out] at bq;simp only[Qkx,Qkz,and_true] at bq;subst bq;exact⟨g.out.own.kind (o:=k) r b1 1,g.out.box.other (a:=⟨gO,k*2,none⟩) (Blk.ne2 g.out.box b3 (by decide)) _,g.out.bel.setCell (p:=⟨gO,k*2,none⟩) (by show y.heap.size<=gO;omega) _,by have:=g.out.le;simpa using this⟩
  have a9:Hid (∀j,((fg (dh (df f k) k 1) k j).os.z k)=⟨1,xg (f.os.z k).ls j⟩):=λj=>by
   rw[vw,uc,bc.out]
  have fh:Hid (∀j,j<(f.os.z k).ls.n->((f.os.z k).ls.z j).b=0):=λj hj=>by
   have e:=ar.out.os.2 k r;rw[e.2.2 j hj];exact(Gg HR.out (k:=k+1) (by rw[<-ar.out.os.1];exact r) (by rw[<-e.2.1];exact hj) ⟨by omega,e.1▸aw.out⟩).2.1
  have bv:Hid ((f.os.z k).ls.n<=(f.os.z k).ls.c/\(f.os.z k).ls.c<=maxLen):=by
   have h:=g.out.own.at.os.ods k r;rw[bc.out] at h;obtain⟨_,_,_,_,_,_,h⟩:=h;exact⟨h.le,h.cap⟩
  have ll:=bv.out.1;have lc:=bv.out.2;unfold maxLen at lc;clear Y bc bv;go_wp2_with fail;clear g4 S gf P u2 g
  go_loopw [9] (λjv G=>∃j:Nat,j<=(f.os.z k).ls.n/\jv = .int .i64 j/\Hid (de t.heap.size B y (fg (dh (df f k) k 1) k j) G)) (λjv _=>(f.os.z k).ls.n-(intOf jv).toNat)
  case atStart=>exact⟨0,Qxz _,rfl,H⟩
  clear H;obtain⟨j,hj,rfl,g⟩:=hrel;have P:wr.cell? ⟨B,1,none⟩=some (.slice f.os.a f.os.n f.os.c):=g.out.box.k 1;have u2:=g.out.box.lt;rw[HG.out] at P;obtain⟨gq,V,gu,gv,g4,S,g6⟩:=g.out.own.orderCells (o:=k) r;have ac:f.os.a=some ⟨gq,0,none⟩:=V;rw[HG.out] at ac;simp only[Qkx,Qkz,and_true] at ac;subst ac;rw[a9.out j] at S;have bt:wr.cell? ⟨gO,k*2+1,none⟩=some (.slice (f.os.z k).ls.a (f.os.z k).ls.n (f.os.z k).ls.c):=S;clear V g4 S g6;by_cases bd:j<(f.os.z k).ls.n;rotate_left
  .have ay:j=(f.os.z k).ls.n:=by omega
   have H:Hid (de t.heap.size B y (df f (k+1)) wr):=by
    have h:=g.out;have e:Jg (df f k) k=fg (dh (df f k) k 1) k j:=by
     unfold Jg;have e2:((df f k).os.z k).ls.n=j:=by show(g9 k k (f.os.z k)).ls.n=j;rw[zq];exact ay.symm
     rw[e2]
    show de _ _ _ (df f (k+1)) _;rw[<-Rj aw.out,e];exact h
   subst ay;go_wp2_with fail;go_roundw
   case rel=>exact⟨k+1,by omega,by go_num,H⟩
   case measure=>simp[intOf];omega
  have q2:(0:Int)<=(j:Int):=by omega
  have q3:(j:Int)<((f.os.z k).ls.n:Int):=by omega
  have ew:j<((fg (dh (df f k) k 1) k j).os.z k).ls.n:=by rw[a9.out];exact bd
  obtain⟨gr,BL,f1,f2,f3,f4,f5,f6,f7,f8,f9,ce,be,am,bb,ao⟩:=g.out.own.lineCell (o:=k) (l:=j) r ew;rw[a9.out] at f5 be am bb ao;have b4:(f.os.z k).ls.a=some ⟨BL,0,none⟩:=f5;have cm:Hid (((fg (dh (df f k) k 1) k j).os.z k).ls.a=some ⟨BL,0,none⟩):=by show((fg (dh (df f k) k 1) k j).os.z k).ls.a=_;rw[a9.out];exact b4
  have m:(xg (f.os.z k).ls j).z j=(f.os.z k).ls.z j:=if_neg (Nat.lt_irrefl _);have b0:wr.cell? ⟨BL,j*4+1,none⟩=some (.int .i64 ((f.os.z k).ls.z j).l):=by rw[<-m];exact am
  have fd:Hid (setLine (fg (dh (df f k) k 1) k j) k j 3 ((f.os.z k).ls.z j).l=fg (dh (df f k) k 1) k (j+1)):=by
   have e:((dh (df f k) k 1).os.z k).ls.z j=(f.os.z k).ls.z j:=by rw[uc];show((g9 k k (f.os.z k)).ls.z j)=_;rw[uy _ nlr]
   have h:=Un (s:=dh (df f k) k 1) (i:=k) (k:=j) (by rw[e];exact fh.out j bd);rw[e] at h;exact h
  rw[b4] at bt;have t1:=Qqq P;have t2:=Qqq bt;have t3:=Qqq b0;clear f1 f2 f3 f4 f5 b4 f6 f8 f9 ce be am b0 bb ao m;go_wp2_with fail;clear P bt;refine i9 [(true,[0,1,2,3,4,5,6,7,8,9,10,11,12,13,14,15,16,17,18],some 19)] ?_;refine⟨λU=>∃p:Regrown,U=grow (redrawn wr p.d) p.os,Qqx (brf.drew),λh=>(by cases h),?_⟩;simp only[dv,Qyq,Xqq,Qyx,Qyz,Xqz,Xqx]
  repeat(go_big_quiet_step(fail))
  refine Qqz ?_;clear t1 t2 t3;have A:Below wr.heap.size wr wr.drew:=brf.drew
  generalize wr.drew=wj at *
  have bn:=g.out.own.below A;have Kj:=g.out.box.below A;have dk:=g.out.bel.trans (A.mono g.out.bel.size);have di:=Qzx g.out.le A.size;obtain⟨Bq,a5,gw,-,-,aq⟩:=bn.os.lines k r;rw[cm.out] at a5;simp only[Qkx,Qkz,and_true] at a5;subst a5;have zl:=aq.lt;have zf:=aq.frozen (j*4+3);have zc:=aq.cell (j:=j*4+3) (by omega);have b6:=bn.setLine (o:=k) r cm.out j 3 (by decide) ((f.os.z k).ls.z j).l;have dj:=Kj.other (a:=⟨BL,j*4+3,none⟩) (Blk.ne2 Kj aq (by decide)) (.int .i64 ((f.os.z k).ls.z j).l);have dl:=dk.setCell (p:=⟨BL,j*4+3,none⟩) (by show y.heap.size<=BL;omega) (.int .i64 ((f.os.z k).ls.z j).l);rw[fd.out] at b6;have H:Hid (de t.heap.size B y (fg (dh (df f k) k 1) k (j+1)) (wj.setCell ⟨BL,j*4+3,none⟩ (.int .i64 ((f.os.z k).ls.z j).l))):=⟨b6,dj,dl,by simpa using di⟩;clear bn Kj dk di aq b6 dj dl A g
  generalize (ax ((fg (dh (df f k) k 1) k j).os.z k).ls.n ((fg (dh (df f k) k 1) k j).os.z k).ls.z).getD (j*4+3) default=VV at zc
  generalize ((f.os.z k).ls.z j).l=LV at *
  refine kq 19 rfl ?_;go_wp2_with fail;refine NoPanic.normal ?_;go_wp2_with fail;go_roundw
  case rel=>exact⟨j+1,by omega,by go_num,H⟩
  case measure=>simp[intOf];omega
 have e6:k=f.os.n:=by omega
 subst e6;have HY:Hid (xw p s 0 (df f f.os.n)):=by
  show ae _ _;rw[ar.out.os.1];exact Ij ar.out _
 go_wp2_with fail;clear P u2
 go_loopw [10] (λkv G=>∃(i:Nat) (cur:St),i<=s.os.n/\kv = .int .i64 i/\Hid (de t.heap.size B y cur G)/\Hid (xw p s i cur)) (λkv _=>s.os.n-(intOf kv).toNat)
 case atStart=>exact⟨0,_,Qxz _,rfl,g,HY⟩
 clear HY g ar hk r ol oc ex;obtain⟨i,cur,hi,rfl,g,HA⟩:=hrel;have J:Hid (Pos p (-1) (pq s) (df s s.os.n) i 0 cur):=h9.pos (uz HR.out) (λa _=>mi s a) hi HA.out;have bw:Hid (cur.os.n=s.os.n):=J.out.al.osn;have n1:(cur.os.n:Int)<=(s.os.n:Int):=by rw[bw.out];omega
 have n2:(s.os.n:Int)<=(cur.os.n:Int):=by rw[bw.out];omega
 have P:wr.cell? ⟨B,1,none⟩=some (.slice cur.os.a cur.os.n cur.os.c):=g.out.box.k 1;have u2:=g.out.box.lt;have ol:cur.os.n<=cur.os.c:=g.out.own.os.le;have oc:cur.os.c<=maxLen:=g.out.own.os.cap;unfold maxLen at oc;by_cases r:i<s.os.n;rotate_left
 .have e5:i=s.os.n:=by omega
  have ev:Hid (jw p s cur):=by have h:=HA.out;rw[e5] at h;exact h
  have q4:(cur.os.n:Int)<=(i:Int):=by omega
  have q5:cur.os.n<=i:=by omega
  obtain⟨m1,p0,p1,p2,p3,p4,p5,p6⟩:=Boxed.of g.out.box;obtain⟨-,-,-,D,m⟩:=HC.out wr g.out.bel;have HZ:Hid (Below w.heap.size w wr/\Blk wr (w.heap.size+2) 31 7 (λ_ => .slice .none 0 0)):=⟨D,m⟩;have zl:=m.lt;have cp:=m.frozen 0;have c7:=m.k 0;have co:=m.frozen 1;have zc1:=m.k 1;have dc:=m.frozen 2;have zc2:=m.k 2;have ct:=m.frozen 3;have zc3:=m.k 3;have c8:=m.frozen 4;have zc4:=m.k 4;have dq:=m.frozen 5;have zc5:=m.k 5;have dn:=m.frozen 6;have cq:=m.k 6;have ga:=(HC.out _ brf).2.2.2.1.size;clear D m;go_wp2_with fail;have KZ:=rq HZ.out.2 (.slice cur.on.a cur.on.n cur.on.c) (.slice cur.os.a cur.os.n cur.os.c) (.slice cur.hs.a cur.hs.n cur.hs.c) (.slice cur.ms.a cur.ms.n cur.ms.c) (.slice cur.si.a cur.si.n cur.si.c) (.slice cur.so.a cur.so.n cur.so.c) (.slice cur.sf.a cur.sf.n cur.sf.c);have a0:=nf (b:=w.heap.size+2) HZ.out.1 (by omega) (.slice cur.on.a cur.on.n cur.on.c) (.slice cur.os.a cur.os.n cur.os.c) (.slice cur.hs.a cur.hs.n cur.hs.c) (.slice cur.ms.a cur.ms.n cur.ms.c) (.slice cur.si.a cur.si.n cur.si.c) (.slice cur.so.a cur.so.n cur.so.c) (.slice cur.sf.a cur.sf.n cur.sf.c);have br:=ai.set7 g.out.own HZ.out.2 (.slice cur.on.a cur.on.n cur.on.c) (.slice cur.os.a cur.os.n cur.os.c) (.slice cur.hs.a cur.hs.n cur.hs.c) (.slice cur.ms.a cur.ms.n cur.ms.c) (.slice cur.si.a cur.si.n cur.si.c) (.slice cur.so.a cur.so.n cur.so.c) (.slice cur.sf.a cur.sf.n cur.sf.c);unfold set7 at KZ a0 br;obtain⟨cc,ca,b5,bs,cd,cf,bz⟩:=cn KZ;refine Xzq (v := .tuple #[cur.val,.int .i64 0]) (by simp[results,results55,go_sem,St.val,cc,ca,b5,bs,cd,cf,bz]) rfl ?_;exact⟨cur,by rw[H0.out];rfl,br.at,⟨λ_=>ev.out,λh=>absurd H0.out h⟩,λ_=>br.mono ea.out,a0⟩
 have q0:(0:Int)<=(i:Int):=by omega
 have q1:(i:Int)<(cur.os.n:Int):=by omega
 have fc:i<cur.os.n:=by omega
 have E:Hid (xx p s i 0 cur):=HA.out.row;have F:Hid (¬((df s s.os.n).os.z i).k=1->xw p s (i+1) cur):=λh=>HA.out.skip HR.out r h;go_wp2_with fail;clear P u2 ol oc q1 fc n1 n2 HA J bw
 go_loopw [11] (λjv G=>∃(j:Nat) (q:St),j<=(s.os.z i).ls.n/\jv = .int .i64 j/\Hid (de t.heap.size B y q G)/\Hid (xx p s i j q)/\Hid (¬((df s s.os.n).os.z i).k=1->xw p s (i+1) q)) (λjv _=>(s.os.z i).ls.n-(intOf jv).toNat)
 case atStart=>exact⟨0,cur,Qxz _,rfl,g,E,F⟩
 clear g E F;obtain⟨j,q,hj,rfl,g,E,F⟩:=hrel;have J:Hid (Pos p (-1) (pq s) (df s s.os.n) i j q):=E.out.pos HR.out r hj;have en:=J.out.al.osn;have ds:q.os.n=s.os.n:=en;have b7:i<q.os.n:=by rw[ds];exact r
 have q1:(i:Int)<(q.os.n:Int):=by omega
 have kk:=J.out.al.kind i r;have az:Hid ((q.os.z i).k=((df s s.os.n).os.z i).k):=kk.1;have kn:(q.os.z i).ls.n=(s.os.z i).ls.n:=kk.2.trans (mi s i).symm;have gt:Hid ((q.os.z i).ls.n=(s.os.z i).ls.n):=kn;obtain⟨gO,V,g2,g3,g4,S,g6⟩:=g.out.own.orderCells (o:=i) b7;have P:wr.cell? ⟨B,1,none⟩=some (.slice q.os.a q.os.n q.os.c):=g.out.box.k 1;rw[V] at P;have HG:Hid (q.os.a=some ⟨gO,0,none⟩):=V;have u2:=g.out.box.lt;have ol:q.os.n<=q.os.c:=g.out.own.os.le;have oc:q.os.c<=maxLen:=g.out.own.os.cap;unfold maxLen at oc;have e7:=g.out.own.at.os.ods i b7;obtain⟨_,_,_,_,_,_,bm⟩:=e7;have ll:=bm.le;have lc:=bm.cap;unfold maxLen at lc;clear V g6 en ds kk bm;by_cases bd:j<(q.os.z i).ls.n;rotate_left
 .have ay:j=(s.os.z i).ls.n:=by omega
  have H:Hid (xw p s (i+1) q):=by have h:=E.out;rw[ay] at h;exact h.next
  have q4:((q.os.z i).ls.n:Int)<=(j:Int):=by omega
  have q5:¬(j:Int)<((q.os.z i).ls.n:Int):=by omega
  clear ay az F E J;go_wp2_with fail;go_roundw
  case rel=>exact⟨i+1,q,by omega,by go_num,g,H⟩
  case measure=>simp[intOf];omega
 have q2:(0:Int)<=(j:Int):=by omega
 have q3:(j:Int)<((q.os.z i).ls.n:Int):=by omega
 by_cases aa:(q.os.z i).k=1;rotate_left
 .have H:Hid (xw p s (i+1) q):=F.out (by rw[<-az.out];exact aa);have fe:((q.os.z i).k==1)=false:=by simpa using aa
  clear aa az F E J
  generalize (q.os.z i).k=KK at *
  go_wp2_with fail;go_roundw
  case rel=>exact⟨i+1,q,by omega,by go_num,g,H⟩
  case measure=>simp[intOf];omega
 have aw:Hid (((df s s.os.n).os.z i).k=1):=az.out.symm.trans aa;rw[aa] at g4;clear aa;have dg:j<(s.os.z i).ls.n:=by omega
 have dr:Hid (j5 p (-1) q i j (pq s i j)):=E.out.stepIn HR.out r dg;have HQ:Hid (pq s i j=((q.os.z i).ls.z j).n):=by
  have e:=J.out.later i j r (by rw[<-mi];exact dg) (λe=>by unfold nj at e;omega);rw[e.1];exact if_pos aw.out
 obtain⟨gr,BL,f1,f2,f3,f4,f5,f6,f7,f8,f9,ce,be,am,bb,ao⟩:=g.out.own.lineCell (o:=i) (l:=j) b7 bd;rw[f5] at S;obtain⟨⟨⟨l1,d0,d1⟩,l2,c0,c1,c2,c3,c4,c5,c6⟩,M,L,D,m⟩:=HC.out wr g.out.bel;obtain⟨m1,p0,p1,p2,p3,p4,p5,p6⟩:=Boxed.of g.out.box;rw[HG.out] at p1;have cw:Hid (p.At wr):=M;have cv:Hid (∀x,lg p (-1) q i j ((q.os.z i).ls.z j).n x->xx p s i (j+1) x):=λx T=>E.out.step (by rw[HQ.out];exact T);have du:Hid (ix p q i j ((q.os.z i).ls.z j).n):=by show ix _ _ _ _ _;rw[<-HQ.out];exact dr.out.tki
 clear f1 f2 f3 f4 f5 f6 f8 f9 ce be am bb M L D m c0 c1 c2 c3 c4 c5 c6 l2 dr E J az F
 generalize ((q.os.z i).ls.z j).n=NB at *
 have t0:∀d os,(grow (redrawn wr d) os).cell? ⟨w.heap.size,0,none⟩=some (.slice p.ab p.nb p.cb):=λdd os=>Qqq d0 dd os;have t1:∀d os,(grow (redrawn wr d) os).cell? ⟨w.heap.size,1,none⟩=some (.slice p.sa p.ns p.cs):=λdd os=>Qqq d1 dd os;have s0:=Qqq p0;have s1:=Qqq p1;have s2:=Qqq p2;have s3:=Qqq p3;have s4:=Qqq p4;have s5:=Qqq p5;have s6:=Qqq p6;have s7:=Qqq S;have s8:=Qqq ao;clear d0 d1 p0 p1 p2 p3 p4 p5 p6 ao;go_wp2_with fail;clear P g4 S;refine i9 [(true,[0,1,2,3,4,5,6,7,8,9,10,11,12,13],some 14),(false,[15,16,17],some 18)] ?_;refine⟨λU=>∃p:Regrown,U=grow (redrawn wr p.d) p.os,Qqx (brf.drew),λh=>(by cases h),?_⟩;simp only[dv,Qyq,Xqq,Qyx,Qyz,Xqz,Xqx]
 repeat(go_big_quiet_step(fail))
 refine Qqz ?_;clear t0 t1 s0 s1 s2 s3 s4 s5 s6 s7 s8;have A:Below wr.heap.size wr wr.drew:=brf.drew
 generalize wr.drew=wj at *
 have cz:Hid (p.At wj):=cw.out.below A;have cu:Hid (ai t.heap.size wj q):=g.out.own.below A;have b8:Hid (t.heap.size<=wj.heap.size):=Qzx g.out.le A.size;have cx:Hid (Below y.heap.size y wj):=g.out.bel.trans (A.mono g.out.bel.size);have c9:Hid (Blk wj B 31 7 (λj=>q.cells.getD j default)):=g.out.box.below A;clear A cw g;refine kq 14 rfl ?_;go_wp2_with fail;rw[<-HG.out];refine(Kt p q i j t.heap.size NB (-1) wj cz.out cu.out b8.out du.out).mono ?_;rintro e w8 ⟨x,rfl,T,cy,bp,da⟩;have HT:Hid (xx p s i (j+1) x):=cv.out x T;have bo:Hid (Blk w8 B 31 7 (λj=>q.cells.getD j default)):=da _ _ _ _ (by decide) c9.out;have e4:Hid (ai t.heap.size w8 x):=cy;have e1:Hid (Below y.heap.size y w8):=cx.out.trans (bp.mono A1);have e9:Hid (t.heap.size<=w8.heap.size):=Qzx b8.out bp.size;clear T cy bp da cv du cz cu b8 cx c9 HG
 generalize (Tk.go (avT q i j) NB (fa p (-1))).left=LL at *
 simp only[St.val];go_wp2_with fail;refine⟨λ_=>True,trivial,λ_ _=>trivial,?_⟩;simp only[dv,Qyq,Xqq,Qyx,Qyz,Xqz,Xqx]
 repeat(go_big_quiet_step(fail))
 refine Qqz ?_;have u:=bo.out;have zl:=u.lt;have cp:=u.frozen 0;have c7:=u.k 0;have co:=u.frozen 1;have zc1:=u.k 1;have dc:=u.frozen 2;have zc2:=u.k 2;have ct:=u.frozen 3;have zc3:=u.k 3;have c8:=u.frozen 4;have zc4:=u.k 4;have dq:=u.frozen 5;have zc5:=u.k 5;have dn:=u.frozen 6;have cq:=u.k 6;clear u;refine kq 18 rfl ?_;go_wp2_with fail;have H:Hid (de t.heap.size B y x (set7 w8 B (.slice x.on.a x.on.n x.on.c) (.slice x.os.a x.os.n x.os.c) (.slice x.hs.a x.hs.n x.hs.c) (.slice x.ms.a x.ms.n x.ms.c) (.slice x.si.a x.si.n x.si.c) (.slice x.so.a x.so.n x.so.c) (.slice x.sf.a x.sf.n x.sf.c))):=by
  have K:=rq bo.out (.slice x.on.a x.on.n x.on.c) (.slice x.os.a x.os.n x.os.c) (.slice x.hs.a x.hs.n x.hs.c) (.slice x.ms.a x.ms.n x.ms.c) (.slice x.si.a x.si.n x.si.c) (.slice x.so.a x.so.n x.so.c) (.slice x.sf.a x.sf.n x.sf.c);have hb:=nf (b:=B) e1.out (Qzx A1 A2) (.slice x.on.a x.on.n x.on.c) (.slice x.os.a x.os.n x.os.c) (.slice x.hs.a x.hs.n x.hs.c) (.slice x.ms.a x.ms.n x.ms.c) (.slice x.si.a x.si.n x.si.c) (.slice x.so.a x.so.n x.so.c) (.slice x.sf.a x.sf.n x.sf.c);exact⟨ai.set7 e4.out bo.out (.slice x.on.a x.on.n x.on.c) (.slice x.os.a x.os.n x.os.c) (.slice x.hs.a x.hs.n x.hs.c) (.slice x.ms.a x.ms.n x.ms.c) (.slice x.si.a x.si.n x.si.c) (.slice x.so.a x.so.n x.so.c) (.slice x.sf.a x.sf.n x.sf.c),K.congr (λj hj=>by match j,hj with|0,_=>rfl|1,_=>rfl|2,_=>rfl|3,_=>rfl|4,_=>rfl|5,_=>rfl|6,_=>rfl),hb,by have:=e9.out;simpa[set7] using this⟩
 unfold set7 at H;refine NoPanic.normal ?_;go_wp2_with fail;go_roundw
 case rel=>exact⟨j+1,x,by omega,by go_num,H,HT,λh=>absurd aw.out h⟩
 case measure=>simp[intOf];omega
theorem Ql{x s:St}(h:ae x s){o:Nat}(b:o<x.os.n){k:Hs}(d:k.n=(dx s.hs (λx=>x.o==(o:Int))).n)(a:∀j,j<k.n->k.z j=(dx s.hs (λx=>x.o==(o:Int))).z j):ae (fg (dh (withHolds x k) o 2) o (x.os.z o).ls.n) (dr s o):=
 have c:=Ea h b
 ⟨c.on,c.os,⟨d,a⟩,c.ms,c.si,c.so,c.sf⟩
theorem La(p:Pl)(s:St)(order:Int)(w:World)(hp:p.At w)(hs:s.At w):
  Calls prog 56 #[p.val,s.val,.int .i64 order] w λe Q=>∃x:St,e = .returned (.tuple #[x.val,.int .i64 (fq p s order)])/\x.At Q/\du (fq p s order) (dr s order.toNat) x/\(fq p s order=0->ai w.heap.size Q x)/\Below w.heap.size w Q:=by
 obtain⟨H,hW,ga,X0,Z0⟩:=Ab w p s;have HC:=yu hp hs ga X0 Z0;have HW:=hid hW;have leb:=hp.leb;have cc:=hp.capb;have les:=hp.les;have cl:=hp.caps;have capb:=cc;have caps:=cl;have he:=Z0.lt;unfold maxLen at capb caps;have hu:=hs.os.le;have ef:=hs.os.cap;have fn:=ef;unfold maxLen at fn;clear hW X0 Z0 hp hs;unfold Pl.val St.val;go_enter func56,ntmps56;go_wp2_with fail;rw[HW.out];obtain⟨X,B,i,t,r⟩:=HC.out H brf;refine(kf p s H B i).mono ?_;rintro e m ⟨rfl,hB⟩;clear X B i t r HW;obtain⟨⟨⟨l1,d0,d1⟩,l2,c0,c1,c2,c3,c4,c5,c6⟩,B,i,t,r⟩:=HC.out m hB;by_cases h0:ag p s=0;rotate_left
 .have Y:Hid (fq p s order=ag p s):=un h0;have fi:Hid (¬fq p s order=0):=by show ¬_;rw[un h0];exact h0
  have g0:(ag p s !=0)=true:=by simpa using h0
  clear h0;clear B i;obtain⟨zl,bb,bl,a7,zc1,bq,zc2,be,zc3,bp,zc4,b7,zc5,b4,bc⟩:=z7 r;go_wp2_with fail;exact gz results56 r t (by omega) Y.out (λh=>fi.out (Y.out.trans h)) rfl rfl rfl
 have H0:=hid h0;have HR:Hid (au p s):=ed h0;rw[h0];clear h0;cases k1:inB order 0 ((s.os.n:Int)-1)
 .have Y:Hid (fq p s order=4):=Cy H0.out k1;clear B i;obtain⟨zl,bb,bl,a7,zc1,bq,zc2,be,zc3,bp,zc4,b7,zc5,b4,bc⟩:=z7 r;go_wp2_with(go_at_call 23;refine ah (ce _ _ _ _) ?_);exact gz results56 r t (by omega) Y.out (by decide) rfl rfl rfl
 have e0:=aq k1;obtain⟨o,rfl⟩:=Qzz e0.1;have ho:o<s.os.n:=by omega
 have q0:(0:Int)<=(o:Int):=by omega
 obtain⟨bo,oo,bx,gb,z0,z1,eu⟩:=i.os.ods o ho;have cp:=hid bx;rw[bx] at c1;clear bx z1 eu;by_cases k2:(s.os.z o).k=2
 .have Y:Hid (fq p s (o:Int)=6):=Cx H0.out k1 k2;rw[k2] at z0;clear k2;clear B i;obtain⟨zl,bb,bl,a7,zc1,bq,zc2,be,zc3,bp,zc4,b7,zc5,b4,bc⟩:=z7 r;go_wp2_with(go_at_call 23;refine ah (ce _ _ _ _) ?_);exact gz results56 r t (by omega) Y.out (by decide) rfl rfl rfl
 have Y:Hid (fq p s (o:Int)=0):=Lq H0.out k1 k2;have g2:((s.os.z o).k==2)=false:=by simpa using k2
 clear k2
 generalize (s.os.z o).k=KK at *
 have d5:=hid t.size;have dq:Hid (Calls prog 20 #[s.val] m λe Q=>∃s':St,e = .returned s'.val/\ae s' s/\ai m.heap.size Q s'/\Below m.heap.size m Q):=ny p s m i HR.out.fm;clear B i t r;go_wp2_with(go_at_call 23;refine ah (ce _ _ _ _) ?_);rw[<-cp.out];refine Calls.mono dq.out ?_;rintro e w4 ⟨f,rfl,T,ca,av⟩;clear dq l1 d0 d1 l2 c0 c1 c2 c3 c4 c5 c6 z0 gb k1 g2 cp;obtain⟨W5,c7,an,K5⟩:∃W,w4.alloc (.cells #[.slice f.on.a f.on.n f.on.c,.slice f.os.a f.os.n f.os.c,.slice none 0 0,.slice f.ms.a f.ms.n f.ms.c,.slice f.si.a f.si.n f.si.c,.slice f.so.a f.so.n f.so.c,.slice f.sf.a f.sf.n f.sf.c] 31)=W/\Below w4.heap.size w4 W/\Blk W w4.heap.size 31 7 (λj=>(withHolds f ⟨none,0,0,ofL []⟩).cells.getD j default):=⟨_,rfl,brf.alloc nlr _,Blk.mk' rfl rfl⟩;have dk:Hid (w4.alloc (.cells #[.slice f.on.a f.on.n f.on.c,.slice f.os.a f.os.n f.os.c,.slice none 0 0,.slice f.ms.a f.ms.n f.ms.c,.slice f.si.a f.si.n f.si.c,.slice f.so.a f.so.n f.so.c,.slice f.sf.a f.sf.n f.sf.c] 31)=W5):=c7;have ap:=av.trans (an.mono av.size);have dn:=hB.trans (ap.mono hB.size);have D:o<f.os.n:=by rw[T.os.1];exact ho
 have c8:=hid T;have A1:H.heap.size<=m.heap.size:=hB.size;have A2:m.heap.size<=w4.heap.size:=av.size;have dp:Hid (de m.heap.size w4.heap.size H (withHolds f ⟨none,0,0,ofL []⟩) W5):=⟨(ai.below ca an).withHolds (h:=⟨none,0,0,ofL []⟩) (cy.nil _ _ _ _),K5,dn,ap.size⟩;have P:Hid (fo m.heap.size W5 61 4 none 0):=Or.inl rfl;clear c7 ca K5 av an ap dn T hB;simp only[St.val];go_wp2_with fail;rw[dk.out]
 generalize w4.heap.size=y at *
 go_loopw [10] (λkv wk=>∃(k:Nat) (h:Hs),k<=s.hs.n/\kv = .int .i64 k/\Hid (de m.heap.size y H (withHolds f h) wk)/\Hid (fo m.heap.size wk 61 4 h.a h.c)/\Hid (h.n=(oq s.hs (λx=>x.o==(o:Int)) k).length/\h.z=ofL (oq s.hs (λx=>x.o==(o:Int)) k))) (λkv _=>s.hs.n-(intOf kv).toNat)
 case atStart=>exact⟨0,⟨none,0,0,ofL []⟩,Qxz _,rfl,dp,P,⟨rfl,rfl⟩⟩
 clear dp P dk;obtain⟨k,h,hk,rfl,g,P,HL⟩:=hrel;obtain⟨⟨⟨l1,d0,d1⟩,l2,c0,c1,c2,c3,c4,c5,c6⟩,B,i,t,r⟩:=HC.out wr g.out.bel;have hi:=i.hs.le;have ev:=i.hs.cap;unfold maxLen at ev;have hm:=HR.out.fm.hs72;by_cases bt:k<s.hs.n
 .have q2:(0:Int)<=(k:Int):=by omega
  have q3:(k:Int)<(s.hs.n:Int):=by omega
  obtain⟨bh,oh,dm,hr,v0,v1,v2,v3⟩:=i.hs.hds k bt;rw[dm] at c2;clear dm B i t r;by_cases S:(s.hs.z k).o=(o:Int)
  .have HN:Hid (h.n=(oq s.hs (λx=>x.o==(o:Int)) (k+1)).length/\h.z=ofL (oq s.hs (λx=>x.o==(o:Int)) (k+1))):=by
    show h.n=_/\h.z=_;rw[Um bt (by simpa using S)];exact HL.out
   have g3:((s.hs.z k).o !=(o:Int))=false:=by simpa using S
   clear S
   generalize s.hs.z k=Z at *
   go_wp2_with fail;go_roundw
   case rel=>exact⟨k+1,h,by omega,by go_num,g,P,HN⟩
   case measure=>simp[intOf];omega
  have a8:Hid (oq s.hs (λx=>x.o==(o:Int)) (k+1)=oq s.hs (λx=>x.o==(o:Int)) k++[s.hs.z k]):=Wu bt (by simpa using S);have g3:((s.hs.z k).o !=(o:Int))=true:=by simpa using S
  have E:Hid (h.n<=72):=by have:=Wv s.hs (λx=>x.o==(o:Int)) k;have:=HL.out.1;show h.n<=72;omega
  clear S;obtain⟨-,p0,p1,p2,p3,p4,p5,p6⟩:=Boxed.of g.out.box;have cv:wr.cell? ⟨y,2,none⟩=some (.slice h.a h.n h.c):=p2;have HZ:Hid (∃Z,s.hs.z k=Z):=⟨_,rfl⟩
  generalize s.hs.z k=Z at *
  have t1:=Qqq cv;have t2:=Qqq c2;have t3:=Qqq v0;have t4:=Qqq v1;have t5:=Qqq v2;have t6:=Qqq v3;have xl:=g.out.box.lt;clear p0 p1 p2 cv p3 p4 p5 p6 HZ;go_wp2_with fail;clear c0 c1 c2 c3 c4 c5 c6 v0 v1 v2 v3;refine jt (λQ=>∃p:Regrown,Q=grow (redrawn wr p.d) p.os) [0,1,2,3,4,5,6] [] [(false,7),(true,8),(true,9),(true,10)] (Qqx (brf.drew)) ?_;simp only[dv,Qyq,Xqq,Qyx,Qyz,Xqz,Xqx]
  repeat(go_big_quiet_step(fail))
  refine Qqz ?_;clear t1 t2 t3 t4 t5 t6;refine⟨λ_ _ _ _=>True,Qjq _,Qjq _,Qjq _,λV G U hS _ _ => ?_⟩;have F:=af hS;clear hS;obtain⟨W9,a9,bs,K9⟩:∃W,U.alloc (.cells #[.int .i64 Z.o,.int .i64 Z.l,.int .i64 Z.b,.int .i64 Z.n] 61)=W/\Below U.heap.size U W/\Blk W U.heap.size 61 4 (λj=>(#[.int .i64 Z.o,.int .i64 Z.l,.int .i64 Z.b,.int .i64 Z.n]:Array Value).getD j default):=⟨_,rfl,brf.alloc nlr _,Blk.mk' rfl rfl⟩;have fs:Hid (U.alloc (.cells #[.int .i64 Z.o,.int .i64 Z.l,.int .i64 Z.b,.int .i64 Z.n] 61)=W9):=a9;have L:=F.trans (bs.mono F.size);have aj:=hid (g.out.own.below L);have cs:=hid (P.out.below L);have dl:=hid (g.out.box.below L);have b0:=hid (g.out.bel.trans (L.mono g.out.bel.size));have aw:Hid (m.heap.size<=W9.heap.size):=Qzx g.out.le L.size;have di:Hid (∀j u,(dg Z)[j]?=some u->W9.cell? ((⟨U.heap.size,0,none⟩:Addr).add j)=some u):=by rw[<-a9];exact Aw _ _ _
  have e6:=hid L;clear F bs L a9 K9 g P;simp only[am];refine dj 7 rfl ?_;go_wp2_with fail;rw[fs.out];refine⟨jp.no (Qqx e6.out),?_⟩;obtain⟨iO,hO,ez,eo,e7⟩:=info_parts H6;refine dj 8 rfl ?_;go_wp2_with(at_builtin;refine ta W9 rfl (.tmp 54) (.tmp 60) 28 rfl m.heap.size 61 iO (.agg #[.int .i64 0,.int .i64 0,.int .i64 0,.int .i64 0]) 4 32 underlying28 hO ez eo e7 rfl (by decide) h.a h.n h.c (ax h.n h.z) rfl cs.out aj.out.hs.1 aj.out.hs.2.1 (ep _ _) aj.out.hs.2.2.2 ⟨U.heap.size,0,none⟩ 1 1 (dg Z) rfl rfl di.out (zo _) (by decide) ?zc3 ?zc4 ?zc5 ?_)
  case zc3=>have:=E.out;unfold maxLen;omega
  case zc4=>have:=E.out;omega
  case zc5=>exact aw.out
  intro v2 w2 J A;have cr:Hid (∃q:Hs,v2 = .slice q.a q.n q.c/\(q.n=(oq s.hs (λx=>x.o==(o:Int)) (k+1)).length/\q.z=ofL (oq s.hs (λx=>x.o==(o:Int)) (k+1)))/\cy m.heap.size 61 w2 q/\fo m.heap.size w2 61 4 q.a q.c):=by
   have e:ax h.n h.z++dg Z=ax (oq s.hs (λx=>x.o==(o:Int)) (k+1)).length (ofL (oq s.hs (λx=>x.o==(o:Int)) (k+1))):=by
    rw[a8.out,Uh,HL.out.1,HL.out.2]
   have e2:h.n+1=(oq s.hs (λx=>x.o==(o:Int)) (k+1)).length:=by rw[a8.out,List.length_append,HL.out.1];rfl
   rw[e,e2] at J;obtain⟨q,a1,a2,a3,a4,a5⟩:=cy.ofOwns J (λe3=>by
    rcases J.2 with⟨_,e4⟩|⟨_,_,_,e4,_⟩
    .omega
    rw[e3] at e4;cases e4)
   exact⟨q,a1,⟨a2,a3⟩,a4,a5⟩
  obtain⟨q,rfl,ct,ao,co⟩:=cr.out;have ex:=hid ct;have K2:=A.blk dl.out (by decide);have z1:=K2.lt;have z2:=K2.frozen 2;have z3:=K2.k 2;have dc:=aj.out.moreH A ao;have HN:Hid (de m.heap.size y H (withHolds f q) (w2.setCell ⟨y,2,none⟩ (.slice q.a q.n q.c))):=by
   have fe:=A.below b0.out (by omega) b0.out.size;exact⟨dc.box K2 2 _,(K2.set 2 _).congr (λj hj=>by match j,hj with|0,_=>rfl|1,_=>rfl|2,_=>rfl|3,_=>rfl|4,_=>rfl|5,_=>rfl|6,_=>rfl),fe.setCell (p:=⟨y,2,none⟩) (by show H.heap.size<=y;omega) _,by
    have h1:=ao;have h3:m.heap.size<=w2.heap.size:=Qzx aw.out (A.below (Below.refl m.heap.size W9) nlr aw.out).size
    simpa using h3⟩
  have fh:Hid (fo m.heap.size (w2.setCell ⟨y,2,none⟩ (.slice q.a q.n q.c)) 61 4 q.a q.c):=co.set _ _ _;clear J A ct ao co K2 dc cr aj cs dl b0 aw di a8 HL E;refine mj ⟨jp.yes,?_⟩;refine dj 9 rfl ?_;go_wp2_with fail;refine⟨jp.yes,?_⟩;refine dj 10 rfl ?_;go_wp2_with fail;refine⟨jp.yes,?_⟩;refine NoPanic.normal ?_;go_wp2_with fail;go_roundw
  case rel=>exact⟨k+1,q,by omega,by go_num,HN,fh,ex⟩
  case measure=>simp[intOf];omega
 have cw:k=s.hs.n:=by omega
 have q4:(s.hs.n:Int)<=(k:Int):=by omega
 have HD:Hid (h.n=(dx s.hs (λx=>x.o==(o:Int))).n/\∀j,j<h.n->h.z j=(dx s.hs (λx=>x.o==(o:Int))).z j):=by
  have e:=HL.out;rw[cw] at e;have e2:=Ua s.hs (λx=>x.o==(o:Int));exact⟨e.1.trans e2.1.symm,λj _=>by rw[e.2,e2.2]⟩
 obtain⟨K,g1,g2,g3,g4,g5,g6⟩:=g.out.own.orderCells (o:=o) D;have M:f.os.a=some ⟨K,0,none⟩:=g1;have HG:Hid (f.os.a=some ⟨K,0,none⟩):=M;have u1:wr.cell? ⟨y,1,none⟩=some (.slice f.os.a f.os.n f.os.c):=g.out.box.k 1;have u2:=g.out.box.lt;rw[M] at u1;have gf:=g6 (o*2);have ol:f.os.n<=f.os.c:=g.out.own.os.le;have oc:f.os.c<=maxLen:=g.out.own.os.cap;unfold maxLen at oc;have bv:Hid ((f.os.z o).ls.n<=(f.os.z o).ls.c/\(f.os.z o).ls.c<=maxLen):=by
  have h:=g.out.own.at.os.ods o D;obtain⟨_,_,_,_,_,_,h⟩:=h;exact⟨h.le,h.cap⟩
 have ll:=bv.out.1;have lc:=bv.out.2;unfold maxLen at lc;have HN:Hid (de m.heap.size y H (fg (dh (withHolds f h) o 2) o 0) (wr.setCell ⟨K,o*2,none⟩ (.int .i64 2))):=by
  show de _ _ _ (fg (dh (withHolds f h) o 2) o 0) _;rw[F3];obtain⟨gq,b1,b2,b3⟩:=g.out.own.os.list (by show 0<f.os.n;omega);have bj:f.os.a=some ⟨gq,0,none⟩:=b1;rw[HG.out] at bj;simp only[Qkx,Qkz,and_true] at bj;subst bj;exact⟨g.out.own.kind (o:=o) D b1 2,g.out.box.other (a:=⟨K,o*2,none⟩) (Blk.ne2 g.out.box b3 (by decide)) _,g.out.bel.setCell (p:=⟨K,o*2,none⟩) (by show H.heap.size<=K;omega) _,by have:=g.out.le;simpa using this⟩
 have E:Hid (∀j,((fg (dh (withHolds f h) o 2) o j).os.z o)=⟨2,xg (f.os.z o).ls j⟩):=λj=>by
  rw[vw,uc]
  rfl
 have cx:Hid (∀j,j<(f.os.z o).ls.n->(0<=((f.os.z o).ls.z j).l/\((f.os.z o).ls.z j).l<=200)/\0<=((f.os.z o).ls.z j).b/\((f.os.z o).ls.z j).b<=200):=λj hj=>by
  have e:=c8.out.os.2 o D;have hl:=dz (HR.out.fm.line o ho j (by rw[<-e.2.1];exact hj));rw[e.2.2 j hj];omega
 clear g1 M g6 cw B i t r HL P bv;go_wp2_with fail;clear g4 g5 gf u1 u2 g l1 d0 d1 l2 c0 c1 c2 c3 c4 c5 c6
 go_loopw [11] (λjv wk=>∃j:Nat,j<=(f.os.z o).ls.n/\jv = .int .i64 j/\Hid (de m.heap.size y H (fg (dh (withHolds f h) o 2) o j) wk)) (λjv _=>(f.os.z o).ls.n-(intOf jv).toNat)
 case atStart=>exact⟨0,Qxz _,rfl,HN⟩
 clear HN;obtain⟨j,hj,rfl,g⟩:=hrel;have u1:wr.cell? ⟨y,1,none⟩=some (.slice f.os.a f.os.n f.os.c):=g.out.box.k 1;have u2:=g.out.box.lt;rw[HG.out] at u1;obtain⟨gq,g1,hn,hq,g4,g5,g6⟩:=g.out.own.orderCells (o:=o) D;have M:f.os.a=some ⟨gq,0,none⟩:=g1;rw[HG.out] at M;simp only[Qkx,Qkz,and_true] at M;subst M;rw[E.out j] at g5;have br:wr.cell? ⟨K,o*2+1,none⟩=some (.slice (f.os.z o).ls.a (f.os.z o).ls.n (f.os.z o).ls.c):=g5;clear g1 g4 g5 g6;by_cases cz:j<(f.os.z o).ls.n;rotate_left
 .have fj:j=(f.os.z o).ls.n:=by omega
  have e8:Hid (ae (fg (dh (withHolds f h) o 2) o j) (dr s o)):=by rw[fj];exact Ql c8.out D HD.out.1 HD.out.2
  have q7:((f.os.z o).ls.n:Int)<=(j:Int):=by omega
  have p0:wr.cell? ⟨y,0,none⟩=some (.slice f.on.a f.on.n f.on.c):=g.out.box.k 0;have p2:wr.cell? ⟨y,2,none⟩=some (.slice h.a h.n h.c):=g.out.box.k 2;have p3:wr.cell? ⟨y,3,none⟩=some (.slice f.ms.a f.ms.n f.ms.c):=g.out.box.k 3;have p4:wr.cell? ⟨y,4,none⟩=some (.slice f.si.a f.si.n f.si.c):=g.out.box.k 4;have p5:wr.cell? ⟨y,5,none⟩=some (.slice f.so.a f.so.n f.so.c):=g.out.box.k 5;have p6:wr.cell? ⟨y,6,none⟩=some (.slice f.sf.a f.sf.n f.sf.c):=g.out.box.k 6;obtain⟨-,-,-,t,r⟩:=HC.out wr g.out.bel;have HZ:=qa2 t r;obtain⟨zl,bb,bl,a7,zc1,bq,zc2,be,zc3,bp,zc4,b7,zc5,b4,bc⟩:=z7 r;clear E cx HD t r;go_wp2_with fail;have KZ:=rq HZ.out.2 (.slice f.on.a f.on.n f.on.c) (.slice (some ⟨K,0,none⟩) f.os.n f.os.c) (.slice h.a h.n h.c) (.slice f.ms.a f.ms.n f.ms.c) (.slice f.si.a f.si.n f.si.c) (.slice f.so.a f.so.n f.so.c) (.slice f.sf.a f.sf.n f.sf.c);have cu:=nf (b:=w.heap.size+2) HZ.out.1 (by omega) (.slice f.on.a f.on.n f.on.c) (.slice (some ⟨K,0,none⟩) f.os.n f.os.c) (.slice h.a h.n h.c) (.slice f.ms.a f.ms.n f.ms.c) (.slice f.si.a f.si.n f.si.c) (.slice f.so.a f.so.n f.so.c) (.slice f.sf.a f.sf.n f.sf.c);have bn:=ai.set7 g.out.own HZ.out.2 (.slice f.on.a f.on.n f.on.c) (.slice (some ⟨K,0,none⟩) f.os.n f.os.c) (.slice h.a h.n h.c) (.slice f.ms.a f.ms.n f.ms.c) (.slice f.si.a f.si.n f.si.c) (.slice f.so.a f.so.n f.so.c) (.slice f.sf.a f.sf.n f.sf.c);unfold set7 at KZ cu bn;obtain⟨fv,fu,fp,e5,fx,gd,fk⟩:=cn KZ;refine Xzq (v := .tuple #[.agg #[.slice f.on.a f.on.n f.on.c,.slice (some ⟨K,0,none⟩) f.os.n f.os.c,.slice h.a h.n h.c,.slice f.ms.a f.ms.n f.ms.c,.slice f.si.a f.si.n f.si.c,.slice f.so.a f.so.n f.so.c,.slice f.sf.a f.sf.n f.sf.c],.int .i64 0]) (by simp[results,results56,go_sem,fv,fu,fp,e5,fx,gd,fk]) rfl ?_;refine⟨fg (dh (withHolds f h) o 2) o j,?_,bn.at,⟨λ_=>e8.out,λh=>absurd Y.out h⟩,λ_=>bn.mono d5.out,cu⟩;rw[Y.out];show _=Ending.returned (.tuple #[.agg #[.slice f.on.a f.on.n f.on.c,.slice f.os.a f.os.n f.os.c,.slice h.a h.n h.c,.slice f.ms.a f.ms.n f.ms.c,.slice f.si.a f.si.n f.si.c,.slice f.so.a f.so.n f.so.c,.slice f.sf.a f.sf.n f.sf.c],.int .i64 0]);rw[HG.out]
 have q5:(0:Int)<=(j:Int):=by omega
 have q6:(j:Int)<((f.os.z o).ls.n:Int):=by omega
 have et:j<((fg (dh (withHolds f h) o 2) o j).os.z o).ls.n:=by rw[E.out];exact cz
 obtain⟨gr,BL,f1,f2,f3,f4,f5,f6,f7,f8,f9,fz,df,ba,bm,cq⟩:=g.out.own.lineCell (o:=o) (l:=j) D et;rw[E.out] at f5 df ba bm cq;have b8:(f.os.z o).ls.a=some ⟨BL,0,none⟩:=f5;have cm:Hid (((fg (dh (withHolds f h) o 2) o j).os.z o).ls.a=some ⟨BL,0,none⟩):=by show((fg (dh (withHolds f h) o 2) o j).os.z o).ls.a=_;rw[E.out];exact b8
 have r:(xg (f.os.z o).ls j).z j=(f.os.z o).ls.z j:=if_neg (Nat.lt_irrefl _);have b6:wr.cell? ⟨BL,j*4+1,none⟩=some (.int .i64 ((f.os.z o).ls.z j).l):=by rw[<-r];exact ba
 have bi:wr.cell? ⟨BL,j*4+2,none⟩=some (.int .i64 ((f.os.z o).ls.z j).b):=by rw[<-r];exact bm
 have fa:Hid (setLine (fg (dh (withHolds f h) o 2) o j) o j 3 (((f.os.z o).ls.z j).l-((f.os.z o).ls.z j).b)=fg (dh (withHolds f h) o 2) o (j+1)):=by
  have e:((dh (withHolds f h) o 2).os.z o).ls.z j=(f.os.z o).ls.z j:=by rw[uc];rfl
  have hh:=F2 (dh (withHolds f h) o 2) o j;rw[e] at hh;exact hh
 have hb:=cx.out j cz;rw[b8] at br;have t1:=Qqq u1;have t2:=Qqq br;have t3:=Qqq b6;have t4:=Qqq bi;clear f1 f2 f3 f4 f5 b8 f6 f8 f9 fz df ba b6 bm bi cq r
 generalize (f.os.z o).ls.z j=Z at *
 go_wp2_with fail;clear u1 br;refine i9 [(true,[0,1,2,3,4,5,6,7,8,9,10,11,12,13,14,15,16,17,18,19,20,21,22,23,24,25,26,27,28,29],some 30)] ?_;refine⟨λQ=>∃p:Regrown,Q=grow (redrawn wr p.d) p.os,Qqx (brf.drew),λh=>(by cases h),?_⟩;simp only[dv,Qyq,Xqq,Qyx,Qyz,Xqz,Xqx]
 repeat(go_big_quiet_step(fail))
 refine Qqz ?_;clear t1 t2 t3 t4;have F:Below wr.heap.size wr wr.drew:=brf.drew
 generalize wr.drew=U at *
 have bg:=g.out.own.below F;have Kj:=g.out.box.below F;have db:=g.out.bel.trans (F.mono g.out.bel.size);have c9:=Qzx g.out.le F.size;obtain⟨Bq,ar,ht,-,-,ad⟩:=bg.os.lines o D;rw[cm.out] at ar;simp only[Qkx,Qkz,and_true] at ar;subst ar;have zl:=ad.lt;have zf:=ad.frozen (j*4+3);have zc:=ad.cell (j:=j*4+3) (by omega);have b9:=bg.setLine (o:=o) D cm.out j 3 (by decide) (Z.l-Z.b);have da:=Kj.other (a:=⟨BL,j*4+3,none⟩) (Blk.ne2 Kj ad (by decide)) (.int .i64 (Z.l-Z.b));have dd:=db.setCell (p:=⟨BL,j*4+3,none⟩) (by show H.heap.size<=BL;omega) (.int .i64 (Z.l-Z.b));rw[fa.out] at b9;have HN:Hid (de m.heap.size y H (fg (dh (withHolds f h) o 2) o (j+1)) (U.setCell ⟨BL,j*4+3,none⟩ (.int .i64 (Z.l-Z.b)))):=⟨b9,da,dd,by simpa using c9⟩;clear bg Kj db c9 ad b9 da dd F g
 generalize (ax ((fg (dh (withHolds f h) o 2) o j).os.z o).ls.n ((fg (dh (withHolds f h) o 2) o j).os.z o).ls.z).getD (j*4+3) default=VV at zc
 refine kq 30 rfl ?_;go_wp2_with fail;refine NoPanic.normal ?_;go_wp2_with fail;go_roundw
 case rel=>exact⟨j+1,by omega,by go_num,HN⟩
 case measure=>simp[intOf];omega
def vk(s:St)(h:Hs)(o l b g:Nat)(n k:Int):St:=setLine (setLine (setLine (setLine (withHolds (setOut (setOn s b g ((s.on.r b).z g-n)) g (s.so.z g+n)) h) o l 0 g) o l 1 ((s.os.z o).ls.z l).l) o l 2 (((s.os.z o).ls.z l).b+n)) o l 3 (((s.os.z o).ls.z l).n+k-n)
theorem U3(s:St)(h:Hs)(o l b g:Nat)(n k:Int)(i j:Nat):((vk s h o l b g n k).os.z i).ls.z j=if i=o/\j=l then ⟨g,((s.os.z o).ls.z l).l,((s.os.z o).ls.z l).b+n,((s.os.z o).ls.z l).n+k-n⟩ else(s.os.z i).ls.z j:=by
 unfold vk;rw[ou,ou,ou,ou];by_cases c:i=o/\j=l
 .rw[if_pos c,if_pos c,if_pos c,if_pos c,if_pos c]
  rfl
 rw[if_neg c,if_neg c,if_neg c,if_neg c,if_neg c]
 rfl
theorem Nq(s:St)(h:Hs)(o l b g:Nat)(n k:Int)(i:Nat):((vk s h o l b g n k).os.z i).k=(s.os.z i).k/\((vk s h o l b g n k).os.z i).ls.n=(s.os.z i).ls.n/\((vk s h o l b g n k).os.z i).ls.a=(s.os.z i).ls.a/\((vk s h o l b g n k).os.z i).ls.c=(s.os.z i).ls.c:=by
 unfold vk;rw[rb,rb,rb,rb,(dm i).1,(dm i).1,(dm i).1,(dm i).1,(dm i).2.1,(dm i).2.1,(dm i).2.1,(dm i).2.1,(dm i).2.2,(dm i).2.2,(dm i).2.2,(dm i).2.2];exact⟨rfl,rfl,rfl,rfl⟩
theorem U4{p:Pl}{x s:St}(e:ae x s){o l b:Nat}{n:Int}(a:nw p s o l b){h:Hs}(f:h.n=(mm s.hs o l b).n)(g:∀j,j<h.n->h.z j=(mm s.hs o l b).z j):ae (vk x h o l b (bp s o l) n (dy s o l b)) (cg s o l b n):=by
 have w:=Gc (n:=n) e a f g;refine⟨w.on,⟨w.os.1,λi hi => ?_⟩,⟨f,g⟩,w.ms,w.si,w.so,w.sf⟩;have d:i<x.os.n:=hi;have k:=e.os.2 i d;have hs:i<s.os.n:=by rw[<-e.os.1];exact d
 rw[(Nq x h o l b (bp s o l) n (dy s o l b) i).1,(Nq x h o l b (bp s o l) n (dy s o l b) i).2.1,(mu s o l b n i).1,(mu s o l b n i).2];refine⟨k.1,k.2.1,λj m => ?_⟩;rw[U3,sx];by_cases c:i=o/\j=l
 .rw[if_pos c,if_pos c,e.line a.on a.ln,<-a.good.1]
  congr 1
  omega
 rw[if_neg c,if_neg c];exact k.2.2 j m
theorem lg.got{p:Pl}{but:Int}{y x:St}{i j:Nat}{n:Int}(T:lg p but y i j n x){o:Nat}(b:o<y.os.n):j6 x o=j6 y o:=by
 have a:er y i j n (Tk.go (avT y i j) n (fa p but)) x:=T;have k:=a.os.2 o (by rw[a.os.1];exact b);unfold j6;rw[k.2.1]
 congr 1
 refine nz λq c => ?_;rw[a.line b c]
 split<;>rfl
theorem Pk(p:Pl)(s:St)(order line bin n:Int)(w:World)(hp:p.At w)(hs:s.At w):
  Calls prog 57 #[p.val,s.val,.int .i64 order,.int .i64 line,.int .i64 bin,.int .i64 n] w λe S=>∃x:St,e = .returned (.tuple #[x.val,.int .i64 (ir p s order line bin n)])/\x.At S/\du (ir p s order line bin n) (pi p s order.toNat line.toNat bin.toNat n) x/\(ir p s order line bin n=0->ai w.heap.size S x)/\Below w.heap.size w S:=by
 obtain⟨F,hW,jv,X0,Z0⟩:=Ab w p s;have HC:=yu hp hs jv X0 Z0;have HW:=hid hW;have leb:=hp.leb;have ft:=hp.capb;have les:=hp.les;have fy:=hp.caps;have capb:=ft;have caps:=fy;have k8:=Z0.lt;unfold maxLen at capb caps;have md:=hs.os.le;have je:=hs.os.cap;unfold maxLen at je;clear hW X0 Z0 hp hs;unfold Pl.val St.val;go_enter func57,ntmps57;go_wp2_with fail;rw[HW.out];obtain⟨X,L,B,D,J⟩:=HC.out F brf;refine(kf p s F L B).mono ?_;rintro e w1 ⟨rfl,hB⟩;clear X L B D J HW;obtain⟨⟨⟨l1,d0,d1⟩,l2,c0,c1,c2,c3,c4,c5,c6⟩,L,B,D,J⟩:=HC.out w1 hB;by_cases h0:ag p s=0;rotate_left
 .have HX:Hid (ir p s order line bin n=ag p s):=yg h0;have kx:Hid (¬ir p s order line bin n=0):=by show ¬_;rw[yg h0];exact h0
  have g0:(ag p s !=0)=true:=by simpa using h0
  clear h0;clear L B;obtain⟨zl,aa,U,Y,zc1,aj,zc2,ac,zc3,bh,zc4,a0,zc5,bg,bb⟩:=z7 J;go_wp2_with fail;exact gz results57 J D (by omega) HX.out (λh=>kx.out (HX.out.trans h)) rfl rfl rfl
 have H0:Hid (ag p s=0):=h0;have HR:Hid (au p s):=ed h0;rw[h0];clear h0;have g8:Hid (s.hs.At w1):=B.hs;clear L B D J;go_wp2_with fail;refine(Q7 s.hs order line bin w1 g8.out).mono ?_;rintro e H ⟨rfl,he⟩;clear g8 l1 d0 d1 l2 c0 c1 c2 c3 c4 c5 c6;have bc:=hB.trans (he.mono hB.size);obtain⟨⟨⟨l1,d0,d1⟩,l2,c0,c1,c2,c3,c4,c5,c6⟩,L,B,D,J⟩:=HC.out H bc;clear he hB;by_cases h1:keptV s.hs.n s.hs.z order line bin=0
 .have HX:Hid (ir p s order line bin n=4):=Ga H0.out h1;have d8:(keptV s.hs.n s.hs.z order line bin==0)=true:=by simpa using h1
  generalize keptV s.hs.n s.hs.z order line bin=KV at *
  clear h1;clear L B;obtain⟨zl,aa,U,Y,zc1,aj,zc2,ac,zc3,bh,zc4,a0,zc5,bg,bb⟩:=z7 J;go_wp2_with fail;exact gz results57 J D (by omega) HX.out (by decide) rfl rfl rfl
 have d8:(keptV s.hs.n s.hs.z order line bin==0)=false:=by simpa using h1
 cases h2:inB n 0 (keptV s.hs.n s.hs.z order line bin)
 .have HX:Hid (ir p s order line bin n=3):=Ei H0.out h1 h2;clear h1
  generalize keptV s.hs.n s.hs.z order line bin=KV at *
  clear L B;obtain⟨zl,aa,U,Y,zc1,aj,zc2,ac,zc3,bh,zc4,a0,zc5,bg,bb⟩:=z7 J;go_wp2_with(go_at_call 23;refine ah (ce _ _ _ _) ?_);exact gz results57 J D (by omega) HX.out (by decide) rfl rfl rfl
 obtain⟨o,l,b,rfl,rfl,rfl,hi⟩:=Mb HR.out h1;have HI:Hid (nw p s o l b):=hi;have gd:=HI.out.good;have bd:=HI.out.bd;have nn:=aq h2;have ho:=HI.out.on;have hl:=HI.out.ln;have hb:=HI.out.bn;obtain⟨g,hg⟩:∃g,bp s o l=g:=⟨_,rfl⟩;have HG:Hid (bp s o l=g):=hg;rw[hg] at gd;have gl:=gd.2;obtain⟨bo,oo,d9,jw,z0,z1,cu⟩:=B.os.ods o ho;obtain⟨bl,ol,ge,jl,y0,y1,y2,y3⟩:=cu.hds l hl;have ll:=cu.le;have lc:=cu.cap;unfold maxLen at lc;have son:=HR.out.fm.son;obtain⟨bs,os,ea,kw,jb⟩:=B.so.ints g (by omega);have l5:=B.so.le;have j3:=B.so.cap;unfold maxLen at j3;have gu:Hid (s.so.a=some ⟨bs,os,none⟩):=ea;have hh:Hid (s.os.a=some ⟨bo,oo,none⟩):=d9;rw[gd.1] at y0;rw[d9] at c1;rw[ge] at z1;rw[ea] at c5;have q0:(0:Int)<=(o:Int):=by omega
 have q1:(o:Int)<(s.os.n:Int):=by omega
 have q2:(0:Int)<=(l:Int):=by omega
 have q3:(l:Int)<((s.os.z o).ls.n:Int):=by omega
 have q4:(0:Int)<=(g:Int):=by omega
 have sg:g<s.so.n:=by omega
 have q5:(g:Int)<(s.so.n:Int):=by omega
 have sob:=HR.out.fm.sob g gl;have H1:Hid (¬dy s o l b=0):=h1;have H2:Hid (inB n 0 (dy s o l b)=true):=h2;have kh:1<=keptV s.hs.n s.hs.z o l b/\keptV s.hs.n s.hs.z o l b<=200:=⟨bd.1,bd.2.1⟩;clear d9 ge cu ea y1 y2 y3 z0 gd bd hi hg h1 son;by_cases h3:1048576<s.so.z g+n
 .have HX:Hid (ir p s o l b n=2):=F9 H0.out H1.out H2.out (by show 1048576<s.so.z (bp s o l)+n;rw[HG.out];exact h3)
  generalize keptV s.hs.n s.hs.z o l b=KV at *
  clear L B;obtain⟨zl,aa,U,Y,zc1,aj,zc2,ac,zc3,bh,zc4,a0,zc5,bg,bb⟩:=z7 J;go_wp2_with(go_at_call 23;refine ah (ce _ _ _ _) ?_);exact gz results57 J D (by omega) HX.out (by decide) rfl rfl rfl
 have HX:Hid (ir p s o l b n=0):=Rg H0.out H1.out H2.out (by show ¬1048576<s.so.z (bp s o l)+n;rw[HG.out];exact h3);have cx:Hid (k9 p s o l b n):=by
  have h:=Mk HX.out;obtain⟨-,o',l',b',e1,e2,e3,h⟩:=h;have b0:o'=o:=by omega
  have ja:l'=l:=by omega
  have jh:b'=b:=by omega
  rw[b0,ja,jh] at h;exact h
 have d5:Hid (w.heap.size<=H.heap.size):=D.size;have gp:Hid (Calls prog 20 #[s.val] H λe S=>∃s':St,e = .returned s'.val/\ae s' s/\ai H.heap.size S s'/\Below H.heap.size H S):=ny p s H B HR.out.fm;obtain⟨K,hK⟩:∃K,keptV s.hs.n s.hs.z o l b=K:=⟨_,rfl⟩;have HK:Hid (dy s o l b=K):=hK;rw[hK] at kh h2 nn d8 ⊢;clear L B D J hK;go_wp2_with(go_at_call 23;refine ah (ce _ _ _ _) ?_);rw[<-hh.out,<-gu.out];refine Calls.mono gp.out ?_;rintro e w4 ⟨i,rfl,E,ee,ct⟩;clear gp l1 d0 d1 l2 c0 c1 c2 c3 c4 c5 c6 z1 jw jl kw y0 jb h2 hh gu d8;have al:o<i.os.n:=by rw[E.os.1];exact ho
 have xk:=E.os.2 o al;have js:l<(i.os.z o).ls.n:=by rw[xk.2.1];exact hl
 have cr:b<i.on.n:=by rw[E.on.1,HR.out.fm.sh.n];exact hb
 have g9:g<(i.on.r b).n:=by rw[(E.on.2 b cr).1,HR.out.fm.sh.len b (by rw[HR.out.fm.sh.n];exact hb)];exact gl
 have dj:g<i.so.n:=by rw[E.so.1];exact sg
 have P:Hid (ae i s):=E;have g7:Hid ((0<=(i.on.r b).z g/\(i.on.r b).z g<=200)/\(0<=i.so.z g/\i.so.z g<=1048576)/\(0<=((i.os.z o).ls.z l).b/\((i.os.z o).ls.z l).b<=200)/\0<=((i.os.z o).ls.z l).n/\((i.os.z o).ls.z l).n<=200):=by
  have f:=HR.out.fm;have bl:=dz (f.line o ho l hl);refine⟨?_,?_,?_⟩
  .rw[E.num f hb gl];exact f.sh.num b (by rw[f.sh.n];exact hb) g gl
  .rw[E.so.2 g dj];exact f.sob g gl
  rw[E.line ho hl];omega
 have v0:=g7.out;obtain⟨W5,gc,cp,K5⟩:=ab7 w4 i;have gh:=hid gc;have cl:=ct.trans (cp.mono ct.size);have gn:=bc.trans (cl.mono bc.size);have A1:F.heap.size<=H.heap.size:=bc.size;have A3:H.heap.size<=w4.heap.size:=ct.size;have b9:Hid (de H.heap.size w4.heap.size F i W5):=⟨ai.below ee cp,K5,gn,by have:=cl.size;omega⟩;clear gc ee K5 ct cp cl gn E bc xk g7;simp only[St.val];go_wp2_with fail;rw[gh.out];clear gh
 generalize w4.heap.size=q at *
 -- what lies there
 obtain⟨g0,G,a1,a2,a3,a4,a5,a6,a7,a8,a9,kc,l8,i8⟩:=b9.out.own.onCell cr g9;have u0:W5.cell? ⟨q,0,none⟩=some (.slice i.on.a i.on.n i.on.c):=b9.out.box.k 0;have ak:=b9.out.box.lt;rw[a1] at u0;unfold maxLen at a8 i8;have r0:(0:Int)<=(b:Int):=by omega
 have r1:(b:Int)<(i.on.n:Int):=by omega
 have r2:(g:Int)<((i.on.r b).n:Int):=by omega
 have es:Hid ((i.on.r b).a=some ⟨G,0,none⟩):=a4;clear a1 a4 kc;have j8:=Qqq u0;have jy:=Qqq a3;have ju:=Qqq a9;go_wp2_with fail;refine i9 [(true,[0,1,2,3,4,5,6,7,8,9,10,11,12,13,14,15,16],some 17)] ?_;refine⟨λS=>∃p:Regrown,S=grow (redrawn W5 p.d) p.os,Qqx (brf.drew),λh=>(by cases h),?_⟩;simp only[dv,Qyq,Xqq,Qyx,Qyz,Xqz,Xqx]
 repeat(go_big_quiet_step(fail))
 refine Qqz ?_;clear j8 jy ju u0 a3 a9;have ap:Below W5.heap.size W5 W5.drew:=brf.drew
 generalize W5.drew=wj at *
 have m:=b9.out.below ap;obtain⟨Gq,b1,b2,b3,b4,b5⟩:=m.own.rows b cr;rw[es.out] at b1;simp only[Qkx,Qkz,and_true] at b1;subst b1;have zl:=b5.lt;have zf:=b5.frozen g;have zc:=b5.cell (j:=g) g9;have b8:Hid (de H.heap.size q F (setOn i b g ((i.on.r b).z g-n)) (wj.setCell ⟨G,g,none⟩ (.int .i64 ((i.on.r b).z g-n)))):=⟨m.own.setOn (b:=b) cr es.out g _,m.box.other (a:=⟨G,g,none⟩) (Blk.ne2 m.box b5 (by decide)) _,m.bel.setCell (p:=⟨G,g,none⟩) (by show F.heap.size<=G;omega) _,by have:=m.le;simpa using this⟩;clear m b2 b3 b4 b5 ap b9 es a2 a5 a6 ak;refine kq 17 rfl ?_;go_wp2_with fail;refine NoPanic.normal ?_;clear zl zf zc
 generalize wj.setCell ⟨G,g,none⟩ (.int .i64 ((i.on.r b).z g-n))=W6 at *
 clear wj
 -- what went
 obtain⟨GS,e1,e2,e3,e4,e5,e6,e7⟩:=b8.out.own.so.cellAt (g:=g) dj;have b0:i.so.a=some ⟨GS,0,none⟩:=e1;have u5:W6.cell? ⟨q,5,none⟩=some (.slice i.so.a i.so.n i.so.c):=b8.out.box.k 5;have ak:=b8.out.box.lt;rw[b0] at u5;have ma:i.so.n<=i.so.c:=e4;have i4:i.so.c<=maxLen:=e5;have gm:W6.cell? ⟨GS,g,none⟩=some (.int .i64 (i.so.z g)):=e6;unfold maxLen at i4;have r3:(g:Int)<(i.so.n:Int):=by omega
 have d4:Hid (i.so.a=some ⟨GS,0,none⟩):=b0;clear e1 b0 e4 e5 e6 e7;have jt:=Qqq u5;have i6:=Qqq gm;go_wp2_with fail;refine i9 [(true,[0,1,2,3,4,5,6,7,8,9,10],some 11)] ?_;refine⟨λS=>∃p:Regrown,S=grow (redrawn W6 p.d) p.os,Qqx (brf.drew),λh=>(by cases h),?_⟩;simp only[dv,Qyq,Xqq,Qyx,Qyz,Xqz,Xqx]
 repeat(go_big_quiet_step(fail))
 refine Qqz ?_;clear jt i6 u5 gm;have ap:Below W6.heap.size W6 W6.drew:=brf.drew
 generalize W6.drew=wj at *
 have m:=b8.out.below ap;obtain⟨Gq,b1,b2,b3,b4,b5⟩:=m.own.so;have ez:i.so.a=some ⟨Gq,0,none⟩:=b1;rw[d4.out] at ez;simp only[Qkx,Qkz,and_true] at ez;subst ez;have zl:=b5.lt;have zf:=b5.frozen g;have zc:wj.cell? ⟨GS,g,none⟩=some (.int .i64 (i.so.z g)):=b5.cell (j:=g) dj;have bm:Hid (de H.heap.size q F (setOut (setOn i b g ((i.on.r b).z g-n)) g (i.so.z g+n)) (wj.setCell ⟨GS,g,none⟩ (.int .i64 (i.so.z g+n)))):=⟨m.own.setOut d4.out g _,m.box.other (a:=⟨GS,g,none⟩) (Blk.ne2 m.box b5 (by decide)) _,m.bel.setCell (p:=⟨GS,g,none⟩) (by show F.heap.size<=GS;omega) _,by have:=m.le;simpa using this⟩;clear m b1 b2 b3 b4 b5 ap b8 d4 e2 e3 ak;refine kq 11 rfl ?_;go_wp2_with fail;refine NoPanic.normal ?_;clear zl zf;have wl:=bm.out.box.lt;have u2:(wj.setCell ⟨GS,g,none⟩ (.int .i64 (i.so.z g+n))).cell? ⟨q,2,none⟩=some (.slice i.hs.a i.hs.n i.hs.c):=bm.out.box.k 2
 generalize wj.setCell ⟨GS,g,none⟩ (.int .i64 (i.so.z g+n))=W7 at *
 clear zc
 -- the hold
 go_wp2_with fail;clear u2 wl;have gj:Hid (Calls prog 119 #[.slice i.hs.a i.hs.n i.hs.c,.int .i64 (o:Int),.int .i64 (l:Int),.int .i64 (b:Int),.int .i64 0] W7 λe S=>∃s':Hs,e = .returned s'.val/\cy W7.heap.size 61 S s'/\(s'.n=(mm s.hs o l b).n/\∀j,j<s'.n->s'.z j=(mm s.hs o l b).z j)/\Below W7.heap.size W7 S):=by
  have cw:aw i.hs.n (cz i.hs.z)=false:=(P.out.formed HR.out.fm).hold;have j9:¬keptV i.hs.n i.hs.z o l b=0:=by
   rw[P.out.hs.1,yf λj hj=>P.out.hs.2 j (by rw[P.out.hs.1];exact hj)];exact H1.out
  obtain⟨p1,p2,p3,p4,p5⟩:=rp cw j9;have fx:=ca cw _ p1;have hk:=Dy (n:=0) p2;have h:=Mz i.hs ⟨o,l,b,0⟩ (jg i.hs.n i.hs.z o l b) W7 bm.out.own.hs.at cw (Xh p2 fx) p1 hk rfl (λj hj=>by rw[<-hk];exact p4 j hj) (λj hj ky=>by rw[<-hk];exact p5 j hj ky);refine Calls.mono h λe S => ?_;rintro⟨s',rfl,q1,q2,q3,q4⟩;have ei:jg i.hs.n i.hs.z o l b=jg s.hs.n s.hs.z o l b:=by
   obtain⟨s1,s2,-⟩:=rp HR.out.fm.hold H1.out;exact((np cw (k:=jg s.hs.n s.hs.z o l b) (by rw[P.out.hs.1];exact s1) (by rw[P.out.hs.2 _ (by rw[P.out.hs.1];exact s1)];exact s2)).2)
  refine⟨s',rfl,q1,⟨by rw[q2,P.out.hs.1];rfl,λj hj => ?_⟩,q4⟩;rw[q3,ei];show fp i.hs.z _ j=fp s.hs.z _ j;have mi:j<i.hs.n-1:=by rw[<-q2];exact hj
  unfold fp
  split
  .exact P.out.hs.2 j (by omega)
  exact P.out.hs.2 (j+1) (by omega)
 refine Calls.mono gj.out ?_;rintro e Q ⟨hd,rfl,gt,gx,bk⟩;have hn:Hid (hd.n=(mm s.hs o l b).n/\∀j,j<hd.n->hd.z j=(mm s.hs o l b).z j):=gx;have m:=bm.out.below bk;have zl:=m.box.lt;have zf:=m.box.frozen 2;have zc:=m.box.k 2;have ba:Hid (de H.heap.size q F (withHolds (setOut (setOn i b g ((i.on.r b).z g-n)) g (i.so.z g+n)) hd) (Q.setCell ⟨q,2,none⟩ (.slice hd.a hd.n hd.c))):=⟨(m.own.withHolds (gt.mono bm.out.le)).box m.box 2 _,(m.box.set 2 (.slice hd.a hd.n hd.c)).congr (λj hj=>by match j,hj with|0,_=>rfl|1,_=>rfl|2,_=>rfl|3,_=>rfl|4,_=>rfl|5,_=>rfl|6,_=>rfl),m.bel.setCell (p:=⟨q,2,none⟩) (by show F.heap.size<=q;omega) _,by have:=m.le;simpa using this⟩;clear m gt gx bk gj bm
 -- the line
 obtain⟨gO,u,f1,f2,f3,f4,f5,f6,f7,f8,f9,fe,da,bv,bt,c8⟩:=ba.out.own.lineCell (o:=o) (l:=l) al js;have dk:i.os.a=some ⟨gO,0,none⟩:=f1;have hc:Hid (i.os.a=some ⟨gO,0,none⟩):=dk;have bx:Hid ((i.os.z o).ls.a=some ⟨u,0,none⟩):=f5;have u1:(Q.setCell ⟨q,2,none⟩ (.slice hd.a hd.n hd.c)).cell? ⟨q,1,none⟩=some (.slice i.os.a i.os.n i.os.c):=ba.out.box.k 1;rw[dk] at u1;have gv:(Q.setCell ⟨q,2,none⟩ (.slice hd.a hd.n hd.c)).cell? ⟨gO,o*2+1,none⟩=some (.slice (some ⟨u,0,none⟩) (i.os.z o).ls.n (i.os.z o).ls.c):=f4;have mh:(i.os.z o).ls.n<=(i.os.z o).ls.c:=f8;have jm:(i.os.z o).ls.c<=maxLen:=f9;have h5:(Q.setCell ⟨q,2,none⟩ (.slice hd.a hd.n hd.c)).cell? ⟨u,l*4,none⟩=some (.int .i64 ((i.os.z o).ls.z l).o):=da;have ih:(Q.setCell ⟨q,2,none⟩ (.slice hd.a hd.n hd.c)).cell? ⟨u,l*4+1,none⟩=some (.int .i64 ((i.os.z o).ls.z l).l):=bv;have ip:(Q.setCell ⟨q,2,none⟩ (.slice hd.a hd.n hd.c)).cell? ⟨u,l*4+2,none⟩=some (.int .i64 ((i.os.z o).ls.z l).b):=bt;have iu:(Q.setCell ⟨q,2,none⟩ (.slice hd.a hd.n hd.c)).cell? ⟨u,l*4+3,none⟩=some (.int .i64 ((i.os.z o).ls.z l).n):=c8;have l7:i.os.n<=i.os.c:=ba.out.own.os.le;have kz:i.os.c<=maxLen:=ba.out.own.os.cap;unfold maxLen at jm kz;have ak:=ba.out.box.lt;have r4:(o:Int)<(i.os.n:Int):=by omega
 have r5:(l:Int)<((i.os.z o).ls.n:Int):=by omega
 clear f1 dk f2 f4 f5 f6 f8 f9 fe da bv bt c8;obtain⟨W9,fz,az,K9⟩:∃W,(Q.setCell ⟨q,2,none⟩ (.slice hd.a hd.n hd.c)).alloc (.cells #[.int .i64 ((i.os.z o).ls.z l).o,.int .i64 ((i.os.z o).ls.z l).l,.int .i64 ((i.os.z o).ls.z l).b,.int .i64 ((i.os.z o).ls.z l).n] 59)=W/\Below (Q.setCell ⟨q,2,none⟩ (.slice hd.a hd.n hd.c)).heap.size (Q.setCell ⟨q,2,none⟩ (.slice hd.a hd.n hd.c)) W/\Blk W (Q.setCell ⟨q,2,none⟩ (.slice hd.a hd.n hd.c)).heap.size 59 4 (λj=>(#[.int .i64 ((i.os.z o).ls.z l).o,.int .i64 ((i.os.z o).ls.z l).l,.int .i64 ((i.os.z o).ls.z l).b,.int .i64 ((i.os.z o).ls.z l).n]:Array Value).getD j default):=⟨_,rfl,brf.alloc nlr _,Blk.mk' rfl rfl⟩;have gk:Hid ((Q.setCell ⟨q,2,none⟩ (.slice hd.a hd.n hd.c)).alloc (.cells #[.int .i64 ((i.os.z o).ls.z l).o,.int .i64 ((i.os.z o).ls.z l).l,.int .i64 ((i.os.z o).ls.z l).b,.int .i64 ((i.os.z o).ls.z l).n] 59)=W9):=fz;have cs:Hid (de H.heap.size q F (withHolds (setOut (setOn i b g ((i.on.r b).z g-n)) g (i.so.z g+n)) hd) W9):=ba.out.below az;have dr:W9.cell? ⟨q,1,none⟩=some (.slice i.os.a i.os.n i.os.c):=cs.out.box.k 1;have ig:=cs.out.box.lt;rw[hc.out] at dr;have ke:gO<W9.heap.size:=Xzx f3 az.size;have k0:u<W9.heap.size:=Xzx f7 az.size;have ht:W9.cell? ⟨gO,o*2+1,none⟩=some (.slice (some ⟨u,0,none⟩) (i.os.z o).ls.n (i.os.z o).ls.c):=(az.cell (p:=⟨gO,o*2+1,none⟩) f3).trans gv;have dn:W9.cell? ⟨(Q.setCell ⟨q,2,none⟩ (.slice hd.a hd.n hd.c)).heap.size,1,none⟩=some (.int .i64 ((i.os.z o).ls.z l).l):=K9.k 1;have fd:W9.cell? ⟨(Q.setCell ⟨q,2,none⟩ (.slice hd.a hd.n hd.c)).heap.size,2,none⟩=some (.int .i64 ((i.os.z o).ls.z l).b):=K9.k 2;have d7:W9.cell? ⟨(Q.setCell ⟨q,2,none⟩ (.slice hd.a hd.n hd.c)).heap.size,3,none⟩=some (.int .i64 ((i.os.z o).ls.z l).n):=K9.k 3;have gb:=K9.lt;clear fz az K9;simp only[Hs.val];go_wp2_with fail;rw[gk.out];clear u1 gv h5 ih ip iu f3 f7 ak zl zf zc gk ba;have eo:(Q.setCell ⟨q,2,none⟩ (.slice hd.a hd.n hd.c)).heap.size=Q.heap.size:=by simp
 rw[eo] at dn fd d7 gb
 try rw[eo]
 clear eo;have hu:=Qqq dr;have h9:=Qqq ht;have h4:=Qqq dn;have ia:=Qqq fd;have hv:=Qqq d7;go_wp2_with fail;refine i9 [(true,[0,1,2,3,4,5,6,7,8,9,10,11,12,13,14,15,16,17,18,19,20,21],some 22)] ?_;refine⟨λS=>∃p:Regrown,S=grow (redrawn W9 p.d) p.os,Qqx (brf.drew),λh=>(by cases h),?_⟩;simp only[dv,Qyq,Xqq,Qyx,Qyz,Xqz,Xqx]
 repeat(go_big_quiet_step(fail))
 refine Qqz ?_;clear hu h9 h4 ia hv dr ht dn fd d7 gb;have ap:Below W9.heap.size W9 W9.drew:=brf.drew
 generalize W9.drew=wj at *
 have m:=cs.out.below ap;obtain⟨Bq,e9,jf,-,-,M⟩:=m.own.os.lines o al;have co:(i.os.z o).ls.a=some ⟨Bq,0,none⟩:=e9;rw[bx.out] at co;simp only[Qkx,Qkz,and_true] at co;subst co;have zl:=M.lt;have aa:=M.frozen (l*4);have Y:=M.frozen (l*4+1);have aj:=M.frozen (l*4+2);have ac:=M.frozen (l*4+3);have ku:l*4+3<(i.os.z o).ls.n*4:=by omega
 have U:=M.cell (j:=l*4) (by show l*4<(i.os.z o).ls.n*4;omega);have zc1:=M.cell (j:=l*4+1) (by show l*4+1<(i.os.z o).ls.n*4;omega);have zc2:=M.cell (j:=l*4+2) (by show l*4+2<(i.os.z o).ls.n*4;omega);have zc3:=M.cell (j:=l*4+3) ku;have s1:=m.own.setLine (o:=o) al bx.out l 0 (by decide) (g:Int);have s2:=s1.setLine (o:=o) al (by rw[(dm o).2.1];exact bx.out) l 1 (by decide) ((i.os.z o).ls.z l).l;have s3:=s2.setLine (o:=o) al (by rw[(dm o).2.1,(dm o).2.1];exact bx.out) l 2 (by decide) (((i.os.z o).ls.z l).b+n);have s4:=s3.setLine (o:=o) al (by rw[(dm o).2.1,(dm o).2.1,(dm o).2.1];exact bx.out) l 3 (by decide) (((i.os.z o).ls.z l).n+K-n);have db:q≠u:=Blk.ne2 m.box M (by decide);have V:Hid (de H.heap.size q F (vk i hd o l b g n K) ((((wj.setCell ⟨u,l*4,none⟩ (.int .i64 (g:Int))).setCell ⟨u,l*4+1,none⟩ (.int .i64 ((i.os.z o).ls.z l).l)).setCell ⟨u,l*4+2,none⟩ (.int .i64 (((i.os.z o).ls.z l).b+n))).setCell ⟨u,l*4+3,none⟩ (.int .i64 (((i.os.z o).ls.z l).n+K-n)))):=⟨s4,(((m.box.other (a:=⟨u,l*4,none⟩) db _).other (a:=⟨u,l*4+1,none⟩) db _).other (a:=⟨u,l*4+2,none⟩) db _).other (a:=⟨u,l*4+3,none⟩) db _,(((m.bel.setCell (p:=⟨u,l*4,none⟩) (by show F.heap.size<=u;omega) _).setCell (p:=⟨u,l*4+1,none⟩) (by show F.heap.size<=u;omega) _).setCell (p:=⟨u,l*4+2,none⟩) (by show F.heap.size<=u;omega) _).setCell (p:=⟨u,l*4+3,none⟩) (by show F.heap.size<=u;omega) _,by have:=m.le;simpa using this⟩
 generalize (ax _ _).getD (l*4) default=mj at U
 generalize (ax _ _).getD (l*4+1) default=mf at zc1
 generalize (ax _ _).getD (l*4+2) default=l6 at zc2
 generalize (ax _ _).getD (l*4+3) default=mc at zc3
 have c7:Hid (ae (vk i hd o l b g n K) (cg s o l b n)):=by have h:=U4 (n:=n) P.out HI.out hn.out.1 hn.out.2;rw[HG.out,HK.out] at h;exact h
 have mk:Hid ((vk i hd o l b g n K).os.a=some ⟨gO,0,none⟩):=hc.out;have hr:Hid (ix p (vk i hd o l b g n K) o l (K-n)):=by have h:=ix.same cx.out.takeIn c7.out;rw[HK.out] at h;exact h
 have gy:o<(vk i hd o l b g n K).os.n:=al;have gf:((vk i hd o l b g n K).os.z o).ls.n=(i.os.z o).ls.n:=(Nq i hd o l b g n K o).2.1;have kd:Hid (((vk i hd o l b g n K).os.z o).ls.n=(i.os.z o).ls.n):=gf;obtain⟨⟨⟨l1,d0,d1⟩,l2,c0,c1,c2,c3,c4,c5,c6⟩,L,B,D,J⟩:=HC.out _ V.out.bel;obtain⟨m1,p0,p1,p2,p3,p4,p5,p6⟩:=Boxed.of V.out.box;have hm:Hid (p.At ((((wj.setCell ⟨u,l*4,none⟩ (.int .i64 (g:Int))).setCell ⟨u,l*4+1,none⟩ (.int .i64 ((i.os.z o).ls.z l).l)).setCell ⟨u,l*4+2,none⟩ (.int .i64 (((i.os.z o).ls.z l).b+n))).setCell ⟨u,l*4+3,none⟩ (.int .i64 (((i.os.z o).ls.z l).n+K-n)))):=L;clear m e9 jf M s1 s2 s3 s4 ap cs ke k0 ig l2 c0 c1 c2 c3 c4 c5 c6 L B D J gf;refine kq 22 rfl ?_;go_wp2_with fail;refine NoPanic.normal ?_;clear zl aa Y aj ac U zc1 zc2 zc3
 generalize ((((wj.setCell ⟨u,l*4,none⟩ (.int .i64 (g:Int))).setCell ⟨u,l*4+1,none⟩ (.int .i64 ((i.os.z o).ls.z l).l)).setCell ⟨u,l*4+2,none⟩ (.int .i64 (((i.os.z o).ls.z l).b+n))).setCell ⟨u,l*4+3,none⟩ (.int .i64 (((i.os.z o).ls.z l).n+K-n)))=i1 at *
 generalize vk i hd o l b g n K=y at *
 go_wp2_with fail;clear l1 d0 d1 m1 p0 p1 p2 p3 p4 p5 p6;refine(Kt p y o l H.heap.size (K-n) b i1 hm.out V.out.own V.out.le hr.out).mono ?_;rintro e b7 ⟨x,rfl,T,ga,bk,gw⟩;have HT:Hid (lg p b y o l (K-n) x):=T;have dx:Hid (Blk b7 q 31 7 (λj=>y.cells.getD j default)):=gw _ _ _ _ (by decide) V.out.box;have i5:Hid (ai H.heap.size b7 x):=ga;have jz:Hid (Below F.heap.size F b7):=V.out.bel.trans (bk.mono A1);have j5:Hid (H.heap.size<=b7.heap.size):=Qzx V.out.le bk.size;have bu:o<x.os.n:=by rw[T.os.1];exact gy
 have mb:Hid ((x.os.z o).ls.n=(i.os.z o).ls.n):=(T.os.2 o bu).2.1.trans kd.out;have gs:=dx.out;obtain⟨zl,aa,U,Y,zc1,aj,zc2,ac,zc3,bh,zc4,a0,zc5,bg,bb⟩:=z7 gs;clear T ga bk gw hm gs
 generalize (Tk.go (avT y o l) (K-n) (fa p b)).left=LL at *
 have HN:Hid (de H.heap.size q F x (set7 b7 q (.slice x.on.a x.on.n x.on.c) (.slice x.os.a x.os.n x.os.c) (.slice x.hs.a x.hs.n x.hs.c) (.slice x.ms.a x.ms.n x.ms.c) (.slice x.si.a x.si.n x.si.c) (.slice x.so.a x.so.n x.so.c) (.slice x.sf.a x.sf.n x.sf.c))):=by
  have K:=s7b dx.out x;have hb:=s7w (b:=q) jz.out (Qzx A1 A3) x;exact⟨s7o i5.out dx.out x,K.congr (λj hj=>by match j,hj with|0,_=>rfl|1,_=>rfl|2,_=>rfl|3,_=>rfl|4,_=>rfl|5,_=>rfl|6,_=>rfl),hb,by have:=j5.out;simpa[set7] using this⟩
 simp only[St.val];go_wp2_with fail;clear zl aa Y aj ac bh a0 bg U zc1 zc2 zc3 zc4 zc5 bb;unfold set7 at HN
 go_loopw [19,20] (λav kv wk=>∃k:Nat,k<=(x.os.z o).ls.n/\kv = .int .i64 k/\av = .bool (!aw k (λj=>jr ((x.os.z o).ls.z j)))/\Hid (de H.heap.size q F x wk)) (λ_ kv _=>(x.os.z o).ls.n-(intOf kv).toNat)
 case atStart=>exact⟨0,Qxz _,rfl,rfl,HN⟩
 clear HN;obtain⟨k,hk,rfl,rfl,t⟩:=hrel;obtain⟨gX,g1,g2,g3,g4,g5,g6⟩:=t.out.own.orderCells (o:=o) bu;have u1:wr.cell? ⟨q,1,none⟩=some (.slice x.os.a x.os.n x.os.c):=t.out.box.k 1;have ak:=t.out.box.lt;rw[g1] at u1;have cv:Hid (x.os.a=some ⟨gX,0,none⟩):=g1;have l9:x.os.n<=x.os.c:=t.out.own.os.le;have ka:x.os.c<=maxLen:=t.out.own.os.cap;obtain⟨_,_,_,_,_,_,ew⟩:=t.out.own.at.os.ods o bu;have mg:=ew.le;have jx:=ew.cap;unfold maxLen at ka jx;have r6:(o:Int)<(x.os.n:Int):=by omega
 clear g1 ew;by_cases i7:k<(x.os.z o).ls.n
 .have q6:(0:Int)<=(k:Int):=by omega
  have q7:(k:Int)<((x.os.z o).ls.n:Int):=by omega
  obtain⟨gr,BX,f1,f2,f3,f4,f5,f6,f7,f8,f9,fe,da,bv,bt,c8⟩:=t.out.own.lineCell (o:=o) (l:=k) bu i7;rw[f5] at g5;have ep:Hid (aw (k+1) (λj=>jr ((x.os.z o).ls.z j))=(aw k (λj=>jr ((x.os.z o).ls.z j))||jr ((x.os.z o).ls.z k))):=Dl _ _;have gg:Hid (jr ((x.os.z o).ls.z k) = !(((x.os.z o).ls.z k).b==((x.os.z o).ls.z k).l)):=rfl
  generalize (x.os.z o).ls.z k=Z at *
  have eg:=Qqq u1;have dw:=Qqq g5;have cj:=Qqq bt;have cd:=Qqq bv;clear f1 f2 f3 f4 f5 f6 f8 f9 fe da bv bt c8 g4 g6;cases ha:aw k (λj=>jr ((x.os.z o).ls.z j));rotate_left
  .simp only[Bool.not_true];go_wp2_with fail;clear u1 g5 g3 f7 ak;refine Qxq (by kernel_rfl) (by kernel_rfl) ?_
   repeat(go_big_quiet_step(fail))
   refine Qqz ?_;intro wq an;have am:=af an;have t:Hid (de H.heap.size q F x wq):=t.out.below am;clear an am eg dw cj cd;go_wp2_with fail;go_roundw
   case rel=>exact⟨k+1,by omega,by go_num,by rw[ep.out,ha];rfl,t⟩
   case measure=>simp[intOf];omega
  cases hq:(Z.b==Z.l)
  .simp only[Bool.not_false];go_wp2_with fail;clear u1 g5 g3 f7 ak;refine Qxq (by kernel_rfl) (by kernel_rfl) ?_
   repeat(go_big_quiet_step(fail))
   refine Qqz ?_;intro wq an;have am:=af an;have t:Hid (de H.heap.size q F x wq):=t.out.below am;clear an am eg dw cj cd;go_wp2_with fail;go_roundw
   case rel=>exact⟨k+1,by omega,by go_num,by rw[ep.out,ha,gg.out,hq];rfl,t⟩
   case measure=>simp[intOf];omega
  simp only[Bool.not_false];go_wp2_with fail;clear u1 g5 g3 f7 ak;refine Qxq (by kernel_rfl) (by kernel_rfl) ?_
  repeat(go_big_quiet_step(fail))
  refine Qqz ?_;intro wq an;have am:=af an;have t:Hid (de H.heap.size q F x wq):=t.out.below am;clear an am eg dw cj cd;go_wp2_with fail;go_roundw
  case rel=>exact⟨k+1,by omega,by go_num,by rw[ep.out,ha,gg.out,hq];rfl,t⟩
  case measure=>simp[intOf];omega
 have kn:k=(x.os.z o).ls.n:=by omega
 have el:Hid ((!aw k (λj=>jr ((x.os.z o).ls.z j)))=j6 (cg s o l b n) o):=by
  rw[kn];show j6 x o=_;rw[HT.out.got gy,Ef c7.out ho]
 obtain⟨AV,f0⟩:∃A,(!aw k (λj=>jr ((x.os.z o).ls.z j)))=A:=⟨_,rfl⟩;rw[f0] at el ⊢;have q7:((x.os.z o).ls.n:Int)<=(k:Int):=by omega
 clear f0;have er:=HT.out;rw[<-HK.out] at er;have cf:Hid (j6 (cg s o l b n) o=false->ae x (pi p s o l b n)):=λj2=>by
  unfold pi;rw[j2,if_neg (by decide)];exact lg.same cx.out.takeIn c7.out (xu (but:=(b:Int)) cx.out.takeIn) er
 have cc:Hid (j6 (cg s o l b n) o=true->ae (dh x o 2) (pi p s o l b n)):=λhf=>by
  have e0:=cx.out.all0 hf;unfold pi;rw[hf,if_pos rfl];have T0:=HT.out;have I0:=hr.out;rw[<-HK.out,e0] at T0 I0;exact F0 ((lg.zero I0 T0).trans c7.out) o 2
 clear er;cases AV
 .have c9:Hid (ae x (pi p s o l b n)):=cf.out el.out.symm;have ao:=t;obtain⟨m1,p0,p1,p2,p3,p4,p5,p6⟩:=Boxed.of ao.out.box;rw[cv.out] at p1;obtain⟨-,-,-,D,J⟩:=HC.out wr ao.out.bel;have HZ:Hid (Below w.heap.size w wr/\Blk wr (w.heap.size+2) 31 7 (λ_ => .slice .none 0 0)):=⟨D,J⟩;obtain⟨zl,aa,U,Y,zc1,aj,zc2,ac,zc3,bh,zc4,a0,zc5,bg,bb⟩:=z7 J;have iw:=(HC.out _ brf).2.2.2.1.size;clear D J g4 g6 cf cc;go_wp2_with fail;rw[<-cv.out];have KZ:=s7b HZ.out.2 x;have cb:=s7w (b:=w.heap.size+2) HZ.out.1 (by omega) x;have ay:=s7o ao.out.own HZ.out.2 x;unfold set7 at KZ cb ay;obtain⟨eu,et,dp,en,ds,eh,fc⟩:=cn KZ;refine Xzq (v := .tuple #[x.val,.int .i64 0]) (by simp[results,results57,go_sem,St.val,eu,et,dp,en,ds,eh,fc]) rfl ?_;exact⟨x,by rw[HX.out];rfl,ay.at,⟨λ_=>c9.out,λh=>absurd HX.out h⟩,λ_=>ay.mono d5.out,cb⟩
 have c9:Hid (ae (dh x o 2) (pi p s o l b n)):=cc.out el.out.symm;have me:=g6 (o*2);obtain⟨gq,b1,b2,b3⟩:=t.out.own.os.list (by omega);rw[cv.out] at b1;simp only[Qkx,Qkz,and_true] at b1;subst b1;have h7:gX≠q:=Blk.ne2 b3 t.out.box (by decide);have ao:Hid (de H.heap.size q F (dh x o 2) (wr.setCell ⟨gX,o*2,none⟩ (.int .i64 2))):=⟨t.out.own.kind (o:=o) bu cv.out 2,t.out.box.other (a:=⟨gX,o*2,none⟩) h7.symm _,t.out.bel.setCell (p:=⟨gX,o*2,none⟩) (by show F.heap.size<=gX;omega) _,by have:=t.out.le;simpa using this⟩
 generalize dh x o 2=z at ao c9
 obtain⟨m1,p0,p1,p2,p3,p4,p5,p6⟩:=Boxed.of ao.out.box;obtain⟨-,-,-,D,J⟩:=HC.out _ ao.out.bel;have HZ:Hid (Below w.heap.size w (wr.setCell ⟨gX,o*2,none⟩ (.int .i64 2))/\Blk (wr.setCell ⟨gX,o*2,none⟩ (.int .i64 2)) (w.heap.size+2) 31 7 (λ_ => .slice .none 0 0)):=⟨D,J⟩;obtain⟨zl,aa,U,Y,zc1,aj,zc2,ac,zc3,bh,zc4,a0,zc5,bg,bb⟩:=z7 J;have iw:=(HC.out _ brf).2.2.2.1.size;clear D J b2 b3 g6 cf cc t
 generalize (x.os.z o).k=KK at *
 go_wp2_with fail;have KZ:=s7b HZ.out.2 z;have cb:=s7w (b:=w.heap.size+2) HZ.out.1 (by omega) z;have ay:=s7o ao.out.own HZ.out.2 z;unfold set7 at KZ cb ay;obtain⟨eu,et,dp,en,ds,eh,fc⟩:=cn KZ;refine Xzq (v := .tuple #[z.val,.int .i64 0]) (by simp[results,results57,go_sem,St.val,eu,et,dp,en,ds,eh,fc]) rfl ?_;exact⟨z,by rw[HX.out];rfl,ay.at,⟨λ_=>c9.out,λh=>absurd HX.out h⟩,λ_=>ay.mono d5.out,cb⟩
theorem ae.low{x y:St}{p:Pl}(h:ae x y)(r:au p y){b g:Nat}(c:b<p.nb)(a:g<p.ns):(x.on.r b).z g+bj x b g x.ms.n=dw y b g:=h.lying r.fm c a
theorem Pj(p:Pl)(s:St)(w:World)(hp:p.At w)(hs:s.At w):
  Calls prog 58 #[p.val,s.val] w λe J=>∃x:St,e = .returned (.tuple #[x.val,.int .i64 (ag p s)])/\x.At J/\du (ag p s) (yp p s) x/\(ag p s=0->ai w.heap.size J x)/\Below w.heap.size w J:=by
 obtain⟨W0,hW,gc,X0,Z0⟩:=Ab w p s;have HC:=yu hp hs gc X0 Z0;have HW:=hid hW;have leb:=hp.leb;have dh:=hp.capb;have les:=hp.les;have dp:=hp.caps;have capb:=dh;have caps:=dp;have gx:=Z0.lt;unfold maxLen at capb caps;clear hW X0 Z0 hp hs;unfold Pl.val St.val;go_enter func58,ntmps58;go_wp2_with fail;rw[HW.out];obtain⟨X,q,E,t,H⟩:=HC.out W0 brf;refine(kf p s W0 q E).mono ?_;rintro e P ⟨rfl,hB⟩;clear X q E t H HW;obtain⟨⟨⟨l1,M,d1⟩,l2,c0,c1,c2,c3,c4,c5,c6⟩,q,E,t,H⟩:=HC.out P hB;by_cases h0:ag p s=0;rotate_left
 .have fx:=hid h0;have g0:(ag p s !=0)=true:=by simpa using h0
  clear h0;clear q E;obtain⟨zl,e5,fk,e2,zc1,fq,zc2,fc,zc3,fo,zc4,f3,zc5,fz,e6⟩:=z7 H;go_wp2_with fail;exact gz results58 H t (by omega) rfl fx.out rfl rfl rfl
 have HR:Hid (au p s):=ed h0;have H0:=hid h0;have eo:=hid t.size;have ei:Hid (Calls prog 20 #[s.val] P λe J=>∃s':St,e = .returned s'.val/\ae s' s/\ai P.heap.size J s'/\Below P.heap.size P J):=ny p s P E HR.out.fm;rw[h0];clear h0 q E t H;go_wp2_with fail;refine Calls.mono ei.out ?_;rintro e w4 ⟨x0,rfl,bx,dc,b1⟩;clear ei l1 M d1 l2 c0 c1 c2 c3 c4 c5 c6;obtain⟨W5,d4,bh,K5⟩:=ab7 w4 x0;have d9:=hid d4;have bu:=b1.trans (bh.mono b1.size);have A2:W0.heap.size<=P.heap.size:=hB.size;have A3:P.heap.size<=w4.heap.size:=b1.size;have eg:Hid (de P.heap.size w4.heap.size W0 x0 W5):=⟨ai.below dc bh,K5,hB.trans (bu.mono hB.size),by have:=bu.size;omega⟩;have dx:=hid bx;have nb6:=HR.out.fm.sh.pl.nb6;have ns3:=HR.out.fm.sh.pl.ns3;clear d4 dc K5 b1 bh bu bx hB;simp only[St.val];go_wp2_with fail;rw[d9.out];clear d9
 generalize w4.heap.size=B7 at *
 go_loopw [8] (λbv m=>∃(b:Nat) (x:St),b<=p.nb/\bv = .int .i64 b/\Hid (de P.heap.size B7 W0 x m)/\Hid (ae x (mf p (frX p true b) s))) (λbv _=>p.nb-(intOf bv).toNat)
 case atStart=>exact⟨0,x0,Qxz _,rfl,eg,dx⟩
 clear eg dx;obtain⟨b,x,hb,rfl,i,d⟩:=hrel;obtain⟨Y,hY⟩:∃Y,mf p (frX p true b) s=Y:=⟨_,rfl⟩;have HY:=hid hY;have e9:Hid (gh p s Y):=by show gh p s Y;rw[<-hY];exact(gh.refl HR.out).B _
 rw[hY] at d;clear hY;obtain⟨⟨⟨l1,M,d1⟩,l2,c0,c1,c2,c3,c4,c5,c6⟩,q,E,t,H⟩:=HC.out wr i.out.bel;clear q E t H l2 c0 c1 c2 c3 c4 c5 c6;by_cases A:b<p.nb;rotate_left
 .have d2:b=p.nb:=by omega
  have fu:Hid (ae x (yp p s)):=by
   have h:=d.out;rw[<-HY.out,d2] at h;exact h
  have q1:(p.nb:Int)<=(b:Int):=by omega
  obtain⟨m1,p0,p1,p2,p3,p4,p5,p6⟩:=Boxed.of i.out.box;obtain⟨-,-,-,t,H⟩:=HC.out wr i.out.bel;have HZ:=qa2 t H;obtain⟨zl,e5,fk,e2,zc1,fq,zc2,fc,zc3,fo,zc4,f3,zc5,fz,e6⟩:=z7 H;have gp:=(HC.out _ brf).2.2.2.1.size;clear t H d2;go_wp2_with fail;have KZ:=s7b HZ.out.2 x;have eh:=s7w (b:=w.heap.size+2) HZ.out.1 (by omega) x;have cy:=s7o i.out.own HZ.out.2 x;unfold set7 at KZ eh cy;obtain⟨f8,f7,f4,fn,f9,ge,fy⟩:=cn KZ;refine Xzq (v := .tuple #[x.val,.int .i64 0]) (by simp[results,results58,go_sem,St.val,f8,f7,f4,fn,f9,ge,fy]) rfl ?_;exact⟨x,by rw[H0.out];rfl,cy.at,⟨λ_=>fu.out,λh=>absurd H0.out h⟩,λ_=>cy.mono eo.out,eh⟩
 have q0:(0:Int)<=(b:Int):=by omega
 have q1:(b:Int)<(p.nb:Int):=by omega
 have d7:Hid (ae x (if (p.zb b).front=true then i7 p b 0 Y else Y)):=by
  have h:=d.out
  split<;>exact h
 go_wp2_with fail;clear l1 M d1 d
 go_loopw [9] (λgv m=>∃(gg:Nat) (x:St),gg<=p.ns/\gv = .int .i64 gg/\Hid (de P.heap.size B7 W0 x m)/\Hid (ae x (if (p.zb b).front=true then i7 p b gg Y else Y))) (λgv _=>p.ns-(intOf gv).toNat)
 case atStart=>exact⟨0,x,Qxz _,rfl,i,d7⟩
 clear i d7;obtain⟨g,x,hg,rfl,i,d⟩:=hrel;obtain⟨⟨⟨l1,M,d1⟩,l2,c0,c1,c2,c3,c4,c5,c6⟩,q,E,t,H⟩:=HC.out wr i.out.bel;obtain⟨bb,ob,U,al,z0,z1,z2,z3⟩:=q.bins b A;have gd:=hid U;rw[U] at M;clear q E t H l2 c0 c1 c2 c3 c4 c5 c6 U;by_cases Q:(p.zb b).front=true;rotate_left
 .-- not in front
  have o:Hid (ae x (mf p (frX p true (b+1)) s)):=by
   have h:=d.out;rw[if_neg Q] at h;rw[Kf Q,HY.out];exact h
  have dz:(p.zb b).front=false:=by simpa using Q
  rw[dz] at z0;clear d Q dz;by_cases D:g<p.ns
  .have r1:(g:Int)<(p.ns:Int):=by omega
   go_wp2_with fail;go_roundw
   case rel=>exact⟨b+1,x,by omega,by go_num,i,o⟩
   case measure=>simp[intOf];omega
  have r1:(p.ns:Int)<=(g:Int):=by omega
  go_wp2_with fail;go_roundw
  case rel=>exact⟨b+1,x,by omega,by go_num,i,o⟩
  case measure=>simp[intOf];omega
 rw[if_pos Q] at d;have be:=hid Q;by_cases D:g<p.ns;rotate_left
 .have dr:g=p.ns:=by omega
  have o:Hid (ae x (mf p (frX p true (b+1)) s)):=by
   rw[Ev ⟨A,be.out⟩,L5,HY.out];have h:=d.out;rw[dr] at h;exact h
  have r1:(p.ns:Int)<=(g:Int):=by omega
  clear dr;rw[Q] at z0;go_wp2_with fail;go_roundw
  case rel=>exact⟨b+1,x,by omega,by go_num,i,o⟩
  case measure=>simp[intOf];omega
 have r0:(0:Int)<=(g:Int):=by omega
 have r1:(g:Int)<(p.ns:Int):=by omega
 rw[Q] at z0;go_wp2_with fail;obtain⟨YG,b3⟩:∃y,i7 p b g Y=y:=⟨_,rfl⟩;have cc:=hid b3;have cr:Hid (gh p s YG):=by show gh p s YG;rw[<-b3];exact e9.out.G A be.out hg
 rw[b3] at d;clear b3;have l:Hid (au p x):=d.out.right cr.out.r;have xb:b<x.on.n:=by rw[l.out.fm.sh.n];exact A
 have b4:g<(x.on.r b).n:=by rw[l.out.fm.sh.len b xb];exact D
 have xn:(x.on.r b).n=p.ns:=l.out.fm.sh.len b xb;have ef:Hid ((x.on.r b).z g+bj x b g x.ms.n=dw YG b g):=d.out.low cr.out.r A D;have ds:=l.out.fm.sh.num b xb g D;have d3:=lj (s:=x) (b:=b) (g:=g) l.out.fm.moveN;have ms8:=l.out.fm.ms8;have lo:=Fw HR.out.fm.sh.pl A;obtain⟨m1,p0,p1,p2,p3,p4,p5,p6⟩:=Boxed.of i.out.box;obtain⟨g0,G0,a1,a2,a3,a4,a5,a6,a7,a8,a9,dd,ca,am⟩:=i.out.own.onCell xb b4;unfold maxLen at a8 am;have L:=hid i.out.own.at;have V:=hid a1;have ab:Hid (∀m,x.At m->Calls prog 116 #[.agg #[.slice (some ⟨g0,0,none⟩) x.on.n x.on.c,.slice x.os.a x.os.n x.os.c,.slice x.hs.a x.hs.n x.hs.c,.slice x.ms.a x.ms.n x.ms.c,.slice x.si.a x.si.n x.si.c,.slice x.so.a x.so.n x.so.c,.slice x.sf.a x.sf.n x.sf.c],.int .i64 b,.int .i64 g] m λe J=>e = .returned (.int .i64 (bj x b g x.ms.n))/\Below m.heap.size m J):=λm h=>by have k:=Cd p x b g m h l.out.fm;rw[St.val,V.out] at k;exact k
 have s0:(b:Int)<(x.on.n:Int):=by omega
 have s1:(g:Int)<((x.on.r b).n:Int):=by omega
 rw[a1] at p0;have ci:=Qqq M;have d6:=Qqq z2;have cf:=Qqq p0;have cj:=Qqq p1;have cd:=Qqq p2;have cg:=Qqq p3;have b8:=Qqq p4;have bz:=Qqq p5;have b5:=Qqq p6;have b2:=Qqq a3;have ch:=Qqq a9;clear a1 a4 a5 dd
 generalize hCO:bj x b g x.ms.n=CO at *
 generalize hZO:(x.on.r b).z g=ZO at *
 have e4:Hid ((p.zb b).low=(p.zb b).low):=rfl
 generalize hLW:(p.zb b).low=LW at *
 have HQ:=qa2 ef.out hLW;have f6:=qa2 hCO hZO;clear ef hLW e4 hCO hZO l1 M d1 z0 z1 z2 z3 p0 p1 p2 p3 p4 p5 p6 a3 a9;by_cases da:LW<=ZO+CO
 .refine Qxq (by kernel_rfl) (by kernel_rfl) ?_
  repeat(go_big_quiet_step((go_at_call 116;exact Xxz (ab.out _ (L.out.below (Qxx _ _ _))))))
  refine Qqz ?_;intro w6 S;have T:=af S;have i:=hid (i.out.below T);clear S T L ab ci d6 cf cj cd cg b8 bz b5 b2 ch m1 a2 a6 a7 a8 ca am al;have o:Hid (ae x (if (p.zb b).front=true then i7 p b (g+1) Y else Y)):=by
   rw[if_pos be.out,Ok (by rw[cc.out,<-HQ.out.1,HQ.out.2];exact da),cc.out];exact d.out
  go_wp2_with fail;go_roundw
  case rel=>exact⟨g+1,x,by omega,by go_num,i,o⟩
  case measure=>simp[intOf];omega
 refine Qxq (by kernel_rfl) (by kernel_rfl) ?_
 repeat(go_big_quiet_step((go_at_call 116;exact Xxz (ab.out _ (L.out.below (Qxx _ _ _))))))
 refine Qqz ?_;intro w6 S;have T:=af S;have i:=hid (i.out.below T);clear S T L ab ci d6 cf cj cd cg b8 bz b5 b2 ch m1 a2 a6 a7 a8 ca am al;have f2:Hid (¬(p.zb b).low<=dw (i7 p b g Y) b g):=by rw[cc.out,<-HQ.out.1,HQ.out.2];exact da
 have dv:=hid d.out;clear HQ f6 d l V ds d3 xb b4 xn s0 s1 ms8 da;go_wp2_with fail
 go_loopw [10] (λfv m=>∃(f:Nat) (x:St),f<=p.nb/\fv = .int .i64 f/\Hid (de P.heap.size B7 W0 x m)/\Hid (ae x (jl p b g (frX p false f) YG))) (λfv _=>p.nb-(intOf fv).toNat)
 case atStart=>exact⟨0,x,Qxz _,rfl,i,dv⟩
 clear i dv;obtain⟨f,x,hf,rfl,i,d⟩:=hrel;obtain⟨YF,b7⟩:∃y,jl p b g (frX p false f) YG=y:=⟨_,rfl⟩;have ct:=hid b7;have dy:Hid (gh p s YF):=by show gh p s YF;rw[<-b7];exact cr.out.F A be.out D _
 rw[b7] at d;clear b7;obtain⟨⟨⟨l1,M,d1⟩,l2,c0,c1,c2,c3,c4,c5,c6⟩,q,E,t,H⟩:=HC.out wr i.out.bel;clear E t H l2 c0 c1 c2 c3 c4 c5 c6;by_cases bd:f<p.nb;rotate_left
 .have dt:f=p.nb:=by omega
  have o:Hid (ae x (if (p.zb b).front=true then i7 p b (g+1) Y else Y)):=by
   rw[if_pos be.out,Q0 (by have:=f2.out;omega),cc.out,<-dt,ct.out];exact d.out
  have q2:(p.nb:Int)<=(f:Int):=by omega
  clear q dt;go_wp2_with fail;go_roundw
  case rel=>exact⟨g+1,x,by omega,by go_num,i,o⟩
  case measure=>simp[intOf];omega
 have q2:(0:Int)<=(f:Int):=by omega
 have q3:(f:Int)<(p.nb:Int):=by omega
 obtain⟨bb,ob,U,al,z0,z1,z2,z3⟩:=q.bins f bd;have gd:=hid U;rw[U] at M;have ak:=hid q;clear q U;have l:Hid (au p x):=d.out.right dy.out.r;have ms8:=l.out.fm.ms8;have ba:=hid d.out.ms.1;obtain⟨m1,p0,p1,p2,p3,p4,p5,p6⟩:=Boxed.of i.out.box;by_cases ce:(p.zb f).front=true
 .have o:Hid (ae x (jl p b g (frX p false (f+1)) YG)):=by
   rw[Kf (by rw[ce];decide),ct.out];exact d.out
  rw[ce] at z0;clear l ba ak;go_wp2_with fail;go_roundw
  case rel=>exact⟨f+1,x,by omega,by go_num,i,o⟩
  case measure=>simp[intOf];omega
 have bk:(p.zb f).front=false:=by simpa using ce
 have an:Hid (jl p b g (frX p false (f+1)) YG=nl p b g f YF):=by show _=_;rw[Ev ⟨bd,bk⟩,L6,ct.out]
 rw[bk] at z0;clear ce bk;by_cases ft:8<=x.ms.n
 .have o:Hid (ae x (jl p b g (frX p false (f+1)) YG)):=by
   rw[an.out,C4 (by rw[<-ba.out];exact ft)];exact d.out
  have q4:(8:Int)<=(x.ms.n:Int):=by omega
  clear l ba ak an;go_wp2_with fail;go_roundw
  case rel=>exact⟨f+1,x,by omega,by go_num,i,o⟩
  case measure=>simp[intOf];omega
 have q4:(x.ms.n:Int)<8:=by omega
 have xb:b<x.on.n:=by rw[l.out.fm.sh.n];exact A
 have b4:g<(x.on.r b).n:=by rw[l.out.fm.sh.len b xb];exact D
 have xn:(x.on.r b).n=p.ns:=l.out.fm.sh.len b xb;go_wp2_with fail;clear M z0 z1 z2 z3 al;obtain⟨-,M,-⟩:=(HC.out wr i.out.bel).1.1;obtain⟨fh,fp,bg,al,z0,z1,z2,z3⟩:=ak.out.bins b A;rw[bg] at M;obtain⟨bs,os,db,fs,y0⟩:=ak.out.sizes g D;have cu:=qa2 db bg;rw[db] at d1;obtain⟨g0,G0,a1,a2,a3,a4,a5,a6,a7,a8,a9,dd,ca,am⟩:=i.out.own.onCell xb b4;unfold maxLen at a8 am;have L:=hid i.out.own.at;have V:=hid a1;have ab:Hid (∀m,x.At m->Calls prog 116 #[.agg #[.slice (some ⟨g0,0,none⟩) x.on.n x.on.c,.slice x.os.a x.os.n x.os.c,.slice x.hs.a x.hs.n x.hs.c,.slice x.ms.a x.ms.n x.ms.c,.slice x.si.a x.si.n x.si.c,.slice x.so.a x.so.n x.so.c,.slice x.sf.a x.sf.n x.sf.c],.int .i64 b,.int .i64 g] m λe J=>e = .returned (.int .i64 (bj x b g x.ms.n))/\Below m.heap.size m J):=λm h=>by have k:=Cd p x b g m h l.out.fm;rw[St.val,V.out] at k;exact k
 have dq:Hid (∀m,x.At m->Calls prog 120 #[.agg #[.slice (some ⟨g0,0,none⟩) x.on.n x.on.c,.slice x.os.a x.os.n x.os.c,.slice x.hs.a x.hs.n x.hs.c,.slice x.ms.a x.ms.n x.ms.c,.slice x.si.a x.si.n x.si.c,.slice x.so.a x.so.n x.so.c,.slice x.sf.a x.sf.n x.sf.c],.int .i64 f,.int .i64 g] m λe J=>e = .returned (.int .i64 (ar x f g))/\Below m.heap.size m J):=λm h=>by have k:=Jl p x f g m h l.out.fm bd D;rw[St.val,V.out] at k;exact k
 have ee:Hid (∀m,p.At m->x.At m->Calls prog 115 #[.agg #[.slice (some ⟨fh,fp,none⟩) p.nb p.cb,.slice (some ⟨bs,os,none⟩) p.ns p.cs],.agg #[.slice (some ⟨g0,0,none⟩) x.on.n x.on.c,.slice x.os.a x.os.n x.os.c,.slice x.hs.a x.hs.n x.hs.c,.slice x.ms.a x.ms.n x.ms.c,.slice x.si.a x.si.n x.si.c,.slice x.so.a x.so.n x.so.c,.slice x.sf.a x.sf.n x.sf.c],.int .i64 b] m λe J=>e = .returned (.int .i64 (fw p x b))/\Below m.heap.size m J):=λm h1 h=>by have k:=Ld p x b m h1 h l.out.fm A;rw[St.val,Pl.val,V.out,cu.out.1,cu.out.2] at k;exact k
 have s0:(b:Int)<(x.on.n:Int):=by omega
 have s1:(g:Int)<((x.on.r b).n:Int):=by omega
 rw[a1] at p0;have ds:=l.out.fm.sh.num b xb g D;have d3:=lj (s:=x) (b:=b) (g:=g) l.out.fm.moveN;have g4:=Fw HR.out.fm.sh.pl A;have g3:=N8 l.out bd D;have g2:=Q4 l.out.fm A;have g6:=HR.out.fm.sh.pl.sizes g D;have eb:Hid (min (min ((p.zb b).high-(x.on.r b).z g-bj x b g x.ms.n) (ar x f g)) ((fw p x b).tdiv (p.zs g))=o5 p YF b g f):=by
  show _=_;rw[<-Ft d.out dy.out.r.fm A D bd,o5,dw]
  congr 2
  omega
 have ci:=Qqq M;have e1:=Qqq d1;have fi:=Qqq z3;have cf:=Qqq p0;have cj:=Qqq p1;have cd:=Qqq p2;have cg:=Qqq p3;have b8:=Qqq p4;have bz:=Qqq p5;have b5:=Qqq p6;have b2:=Qqq a3;have ch:=Qqq a9;have fa:=Qqq y0;clear a1 a4 a5 dd db bg
 generalize bj x b g x.ms.n=CO at *
 generalize (x.on.r b).z g=ZO at *
 generalize ar x f g=AV at *
 generalize fw p x b=FR at *
 generalize p.zs g=ZS at *
 generalize (p.zb b).high=HI at *
 clear M d1 z0 z1 z2 z3 p0 p1 p2 p3 p4 p5 p6 a3 a9 y0 l1;refine Qxq (by kernel_rfl) (by kernel_rfl) ?_
 repeat(go_big_quiet_step((first|(go_at_call 116;exact Xxz (ab.out _ (L.out.below (Qxx _ _ _))))|(go_at_call 120;exact Xxz (dq.out _ (L.out.below (Qxx _ _ _))))|(go_at_call 115;exact Xxz (ee.out _ (ak.out.below (Qxx _ _ _)) (L.out.below (Qxx _ _ _)))))))
 refine Qqz ?_;intro w6 S;have T:=af S;have i:=hid (i.out.below T);clear S T L ab dq ee ci e1 fi cf cj cd cg b8 bz b5 b2 ch fa m1 a2 a6 a7 a8 ca am al fs ak cu V;obtain⟨NN,cv⟩:∃NN,(if FR.tdiv ZS<if AV<HI-ZO-CO then AV else HI-ZO-CO then FR.tdiv ZS else if AV<HI-ZO-CO then AV else HI-ZO-CO)=NN:=⟨_,rfl⟩;rw[cv];have b6:Hid (NN=o5 p YF b g f):=by
  show NN=_;rw[<-eb.out,<-cv]
  generalize FR.tdiv ZS=QQ
  split<;>split<;>omega
 clear cv eb;by_cases h1:0<NN;rotate_left
 .have o:Hid (ae x (jl p b g (frX p false (f+1)) YG)):=by
   rw[an.out];unfold nl;rw[<-b6.out,if_neg (by omega)];exact d.out
  clear an b6 ba l;go_wp2_with fail;go_roundw
  case rel=>exact⟨f+1,x,by omega,by go_num,i,o⟩
  case measure=>simp[intOf];omega
 have ea:Hid (nl p b g f YF=iw YF ⟨g,f,b,NN⟩):=by
  show _=_;unfold nl;rw[<-b6.out,if_pos ⟨by rw[<-ba.out];omega,by omega⟩]
 obtain⟨iM,hM,fe,fl,f1⟩:=info_parts C6;obtain⟨W7,cz,cx⟩:∃W,w6.alloc (.cells #[.int .i64 (g:Int),.int .i64 (f:Int),.int .i64 (b:Int),.int .i64 NN] 63)=W/\Below w6.heap.size w6 W:=⟨_,rfl,brf.alloc nlr _⟩;have d5:Hid (w6.alloc (.cells #[.int .i64 (g:Int),.int .i64 (f:Int),.int .i64 (b:Int),.int .i64 NN] 63)=W7):=cz;have d8:Hid (∀j u,(dg ⟨g,f,b,NN⟩)[j]?=some u->W7.cell? ((⟨w6.heap.size,0,none⟩:Addr).add j)=some u):=by rw[<-cz];exact Z9 w6 ⟨g,f,b,NN⟩ _
 obtain⟨m1,p0,p1,p2,p3,p4,p5,p6⟩:=Boxed.of i.out.box;have K:=hid (i.out.below cx);have g5:=K.out.own.ms.1;have fd:=K.out.own.ms.2.1;unfold maxLen at fd;clear cz cx p0 p1 p2 p4 p5 p6 i;go_wp2_with(at_builtin;rw[d5.out];refine ta W7 rfl (.tmp 120) (.tmp 126) 29 rfl P.heap.size 63 iM (.agg #[.int .i64 0,.int .i64 0,.int .i64 0,.int .i64 0]) 4 32 underlying29 hM fe fl f1 rfl (by decide) x.ms.a x.ms.n x.ms.c (ax x.ms.n x.ms.z) rfl K.out.own.msr K.out.own.ms.1 K.out.own.ms.2.1 (ep _ _) K.out.own.ms.2.2.2 ⟨w6.heap.size,0,none⟩ 1 1 (dg ⟨g,f,b,NN⟩) rfl rfl d8.out (λu hu=>by simp[dg] at hu;rcases hu with rfl|rfl|rfl|rfl<;>rfl) (by decide) ?zc3 ?zc4 K.out.le ?_)
 case zc3=>unfold maxLen;omega
 case zc4=>omega
 intro v2 w2 b9 bc;obtain⟨k,rfl,ec,kn,kz,kl,b0⟩:=K.out.more A2 A3 b9 bc;have e3:=hid ec;have o:Hid (ae (withMoves x k) (jl p b g (frX p false (f+1)) YG)):=by
  rw[an.out,ea.out];exact Cv d.out _ kn kz kl
 have z1:=b0.lt;have z2:=b0.frozen 3;have z3:=b0.k 3;clear b9 bc ec kn kz kl b0 K d8 d5 m1 p3 ea an b6
 try simp only[Act.put,Qvq,Qwx,Qwz]
 go_wp2_with fail;go_roundw
 case rel=>exact⟨f+1,withMoves x k,by omega,by go_num,e3,o⟩
 case measure=>simp[intOf];omega
end Go.Proofs.YtbcacebifpagpagGreat

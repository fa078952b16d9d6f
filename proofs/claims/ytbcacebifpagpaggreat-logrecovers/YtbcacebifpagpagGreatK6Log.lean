/- Texts that were built one behind the other, joined; what is not reached is left out. -/
import Derived.Test.YtbcacebifpagpagGreatK5Log
import Derived.Laws.IdiomStrings
import Derived.Lib.QuietBelow
set_option maxHeartbeats 8000000
set_option maxRecDepth 100000
namespace Go.Proofs.YtbcacebifpagpagGreat
variable{n b A g o l c i q j R L M:Nat}{w a d:World}{s x y u:St}{r W J D:Int}{e H:TypeId}{p:Pl}{z O:Nat->Hd}{f f':Nat->Value}{Q:Exit->Act->World->Prop}{v c1 c3 c2:Value}{xs:List Value}{U V:Hs}{X Y:Int->Int->Int}{P:Program}{h Z:Hd}{t:List UInt8}{E:Hd->Bool}{z' zs:Nat->Int}{S:World->Prop}{a1:Act}{K:Act->World->Prop}
open _root_.Go.Proofs.Tryz
open Go.RowKit Go.Shelf Go.Sort
set_option linter.unusedVariables false
theorem Ra(x:Hd)(w:World):
  Calls prog 150 #[x.val] w λe a=>e = .returned (.bool (ts x))/\Below w.heap.size w a:=by
 unfold Hd.val ts;go_enter func150,ntmps150;go_wp2_with fail;go_ret;exact⟨rfl,brf.alloc nlr _⟩
def np(x:St)(q:Int->Int->Int):St:=⟨x.on,Ge x.os q,x.hs,x.ms,x.si,x.so,x.sf⟩
theorem Ws(x:Hd):uv x 0=x:=by unfold uv;rw[Int.add_zero]
theorem Vt(x:St):np x (λ_ _=>0)=x:=by
 unfold np Ge;simp only[Ws]
theorem aav(x:St)(q:Int->Int->Int)(o l:Nat)(d:Int):setLine (np x q) o l 3 (((x.os.z o).ls.z l).n+q o l+d)=np x (sl q o l (q o l+d)):=by
 unfold setLine np Dm Ge
 congr 2
 funext i
 by_cases hi:i=o
 .rw[if_pos hi];subst hi
  congr 2
  unfold Ab
  congr 1
  funext j
  dsimp only;by_cases a:j=l
  .rw[if_pos a,a];unfold H4 uv sl;rw[if_neg (by decide),if_neg (by decide),if_neg (by decide),if_pos ⟨rfl,rfl⟩,Int.add_assoc]
  rw[if_neg a];unfold sl;rw[if_neg (λe=>a (by omega))]
 rw[if_neg hi];dsimp only
 congr 2
 funext j
 unfold sl;rw[if_neg (λe=>hi (by omega))]
structure xj(x:St)(b g:Nat)(n:Int)(i:Nat)(m:Int)(z:Nat->Hd)(q:Int->Int->Int):Prop where
 rest:l7 (ce x b g) i (max 0 m) z=l7 (ce x b g) x.hs.n (max 0 n) x.hs.z
 sum:∀o l,q o l+lr (ce x b g) (max 0 m) (cy z i) o l=lr (ce x b g) (max 0 n) (mq x) o l
 q0:∀o l,0<=q o l
 pos:∀j,j<x.hs.n->0<=(z j).n/\(z j).n<=200
 key:∀j,j<x.hs.n->(z j).o=(x.hs.z j).o/\(z j).l=(x.hs.z j).l/\(z j).b=(x.hs.z j).b
 le:m<=max 0 n/\(m=n\/0<=m)
theorem xj.revP{n m:Int}{q:Int->Int->Int}(h:xj x b g n i m z q)(hi:i<=x.hs.n):xe (cy z i):=λy a=>by
 obtain⟨j,c,e⟩:=ye a;rw[<-e];exact(h.pos j (by omega)).1
theorem xj.qle{n m:Int}{q:Int->Int->Int}(h:xj x b g n i m z q)(hi:i<=x.hs.n)(o l:Int):q o l<=lr (ce x b g) (max 0 n) (mq x) o l:=by
 have a:=h.sum o l;have c:=Kd (ce x b g) o l (m:=max 0 m) (h.revP hi) (by omega);omega
theorem xj.miss{n m:Int}{q:Int->Int->Int}(h:xj x b g n (i+1) m z q)(a:¬((z i).b=b/\jw x (z i)=g)):xj x b g n i m z q:=by
 have c:¬ce x b g (z i)=true:=λe=>a (xx.1 e);refine⟨?_,λo l => ?_,h.q0,h.pos,h.key,h.le⟩
 .rw[<-h.rest];exact(if_neg c).symm
 rw[<-h.sum o l]
 congr 1
 exact(if_neg c).symm
theorem xj.hit{n m:Int}{q:Int->Int->Int}(h:xj x b g n (i+1) m z q)(hi:i<x.hs.n)(B:0<m)(u:(z i).b=b)(t:jw x (z i)=g)(v:(z i).o=o)(y:(z i).l=l):xj x b g n i (m-min m (z i).n) (ig z i (min m (z i).n)) (sl q o l (q o l+min m (z i).n)):=by
 have c:ce x b g (z i)=true:=xx.2 ⟨u,t⟩;have p:=h.pos i hi;have e0:max 0 m=m:=by omega
 have r:max 0 (m-min m (z i).n)=m-min m (z i).n:=by omega
 have le:=h.le;refine⟨?_,λa k => ?_,λa k => ?_,λj d => ?_,λj d => ?_,by omega⟩
 .rw[<-h.rest,e0,r];exact(if_pos c).symm
 .have s:=h.sum a k;have A:lr (ce x b g) m (cy z (i+1)) a k=(if (z i).o=a/\(z i).l=k then min m (z i).n else 0)+lr (ce x b g) (m-min m (z i).n) (cy z i) a k:=if_pos c;rw[e0,A,v,y] at s;rw[r,pk (z:=ig z i (min m (z i).n)) (z':=z) λj d=>if_neg (by omega)];unfold sl;by_cases e:a=o/\k=l
  .rw[if_pos ⟨e.1.symm,e.2.symm⟩] at s;rw[if_pos e];rw[e.1,e.2] at s ⊢;omega
  rw[if_neg (λf=>e ⟨f.1.symm,f.2.symm⟩)] at s;rw[if_neg e];omega
 .have:=h.q0 a k;have:=h.q0 o l;unfold sl
  split<;>omega
 .unfold ig;have w:=h.pos j d;by_cases e:j=i
  .rw[if_pos e,e];show 0<=(z i).n-min m (z i).n/\(z i).n-min m (z i).n<=200;omega
  rw[if_neg e];exact w
 unfold ig;have w:=h.key j d;by_cases e:j=i
 .rw[if_pos e];exact w
 rw[if_neg e];exact w
theorem xj.done{n m:Int}{q:Int->Int->Int}(h:xj x b g n i m z q)(hi:i<=x.hs.n)(hd:i=0\/m<=0):z=l7 (ce x b g) x.hs.n (max 0 n) x.hs.z/\q=lr (ce x b g) (max 0 n) (mq x):=by
 rcases hd with rfl|hd
 .refine⟨h.rest,?_⟩
  funext o l
  rw[<-h.sum o l];exact(Int.add_zero _).symm
 have e:max 0 m=0:=by omega
 have r:=h.rest;rw[e,Jc _ _ _ λj a=>(h.pos j (by omega)).1] at r;refine⟨r,?_⟩
 funext o l
 rw[<-h.sum o l,e,Cu _ _ _ (h.revP hi),Int.add_zero]
theorem xy{f:Nat}{W0:World}{q Q:Int->Int->Int}{k G m B:Nat}(h:gw A f R W0 (withHolds (np x q) ⟨x.hs.a,x.hs.n,x.hs.c,z⟩) b g Q d)(p:k<x.hs.n)(T:(z k).o=(o:Int))(W:(z k).l=(l:Int))(on:o<x.os.n)(ln:l<(x.os.z o).ls.n)(H:x.hs.a=some ⟨G,0,none⟩)(J:x.os.a=some ⟨m,0,none⟩)(F:(x.os.z o).ls.a=some ⟨B,0,none⟩):
  f<d.heap.size/\d.cell? ⟨f,1,none⟩=some (.slice (some ⟨m,0,none⟩) x.os.n x.os.c)/\d.cell? ⟨f,2,none⟩=some (.slice (some ⟨G,0,none⟩) x.hs.n x.hs.c)/\d.cell? ⟨f,7,none⟩=some (.int .i64 (b:Int))/\d.cell? ⟨f,8,none⟩=some (.int .i64 (g:Int))/\d.cell? ⟨f,9,none⟩=some (.map (some R)) /\
  G<d.heap.size/\d.cell? ⟨G,k*4,none⟩=some (.int .i64 (o:Int))/\d.cell? ⟨G,k*4+1,none⟩=some (.int .i64 (l:Int))/\d.cell? ⟨G,k*4+2,none⟩=some (.int .i64 (z k).b)/\d.cell? ⟨G,k*4+3,none⟩=some (.int .i64 (z k).n) /\
  m<d.heap.size/\d.cell? ⟨m,o*2+1,none⟩=some (.slice (some ⟨B,0,none⟩) (x.os.z o).ls.n (x.os.z o).ls.c)/\B<d.heap.size/\d.cell? ⟨B,l*4,none⟩=some (.int .i64 ((x.os.z o).ls.z l).o)/\d.cell? ⟨B,l*4+3,none⟩=some (.int .i64 (((x.os.z o).ls.z l).n+q o l))/\(∀j,d.frozen? ⟨G,j,none⟩=false)/\(∀j,d.frozen? ⟨B,j,none⟩=false)/\¬G=B:=by
 obtain⟨u,-,X,U,-,-,-,-,S,u8,P⟩:=h.boxed;obtain⟨E,K,ab,i⟩:=h.own.hs.2.2.2 (show 0<x.hs.n by omega);obtain⟨s,B',c1,c2,c3,c4,c5,c6,c7,c8,c9,D,L,d1,d2,V⟩:=h.own.lineCell (o:=o) (l:=l) on ln;have Y:G=E:=by have e:x.hs.a=some ⟨E,0,none⟩:=K;rw[H] at e;simpa using e
 have M:m=s:=by have e:x.os.a=some ⟨s,0,none⟩:=c1;rw[J] at e;simpa using e
 have w:B=B':=by have e:(x.os.z o).ls.a=some ⟨B',0,none⟩:=c5;rw[F] at e;simpa using e
 subst Y M w;have v:d.cell? ⟨f,1,none⟩=some (.slice x.os.a x.os.n x.os.c):=X;have t:d.cell? ⟨f,2,none⟩=some (.slice x.hs.a x.hs.n x.hs.c):=U;rw[J] at v;rw[H] at t;have y:=h.own.os.lines o on;obtain⟨B',b1,b2,b3,b4,b5⟩:=y;have w:B=B':=by have e:(x.os.z o).ls.a=some ⟨B',0,none⟩:=b1;rw[F] at e;simpa using e
 subst w;exact⟨u,v,t,S,u8,P,i.lt,(i.cell (j:=k*4) (by show k*4<x.hs.n*4;omega)).trans (congrArg some ((re (z:=z) (c:=0) p (by decide)).trans (by rw[<-T];rfl))),(i.cell (j:=k*4+1) (by show _<x.hs.n*4;omega)).trans (congrArg some ((re (z:=z) (c:=1) p (by decide)).trans (by rw[<-W];rfl))),(i.cell (j:=k*4+2) (by show _<x.hs.n*4;omega)).trans (congrArg some (re (z:=z) (c:=2) p (by decide))),(i.cell (j:=k*4+3) (by show _<x.hs.n*4;omega)).trans (congrArg some (re (z:=z) (c:=3) p (by decide))),c3,c4,c7,L,V,λj=>i.frozen j,D,Blk.ne2 i b5 (by decide)⟩
def ade(BC r G k o l:Nat)(qv d:Int)(j:Nat):Value:=(#[.pointer (some ⟨BC,0,none⟩),.pointer (some ⟨BC,0,none⟩),.pointer (some ⟨BC,9,none⟩),.map (some r),.pointer (some ⟨G,k*4,none⟩),.pointer (some ⟨G,k*4,none⟩),.pointer (some ⟨G,k*4,none⟩),.int .i64 (o:Int),.pointer (some ⟨G,k*4,none⟩),.pointer (some ⟨G,k*4,none⟩),.pointer (some ⟨G,k*4+1,none⟩),.int .i64 (l:Int),ou o l,.int .i64 qv,.int .i64 d,.int .i64 (qv+d)]:Array Value).getD j default
structure uk(A BC r:Nat)(W0:World)(X:St)(b g:Nat)(q:Int->Int->Int)(o l G k:Nat)(d:Int)(dn:Nat->Bool)(V:Nat->Value)(w:World):Prop where
 val:∀j,j<16->dn j=true->V j=ade BC r G k o l (q o l) d j
 cut:dn 18=false->gw A BC r W0 X b g q w
 fin:dn 18=true->gw A BC r W0 X b g (sl q o l (q o l+d)) w
 ent:dn 16=true->dn 18=false->∃(v0:Value) (st:Nat),V 16 = .tuple #[v0,goInt st]/\(dn 17=true->V 17=goInt st)/\∀v:Int,∃w2,(Instr.entryStore 137 (.map (some r)) (goInt st) (.int .i64 v)).run prog w = .ok () w2/\la w2 r (sl q o l v)/\rt r w w2
 c18:dn 18=true->dn 15=true/\dn 17=true
 c15:dn 15=true->dn 13=true
 c17:dn 17=true->dn 16=true
section
variable {A BC r:Nat} {W0:World} {X:St} {b g:Nat} {q:Int->Int->Int} {o l G k:Nat} {d:Int} {dn:Nat->Bool} {V:Nat->Value} {w:World}
theorem uk.any(h:uk A BC r W0 X b g q o l G k d dn V w):∃q',gw A BC r W0 X b g q' w:=by
 cases e:dn 18
 .exact⟨_,h.cut e⟩
 exact⟨_,h.fin e⟩
theorem uk.not13(h:uk A BC r W0 X b g q o l G k d dn V w)(e:dn 13=false):dn 18=false:=by
 cases a:dn 18
 .rfl
 rw[h.c15 (h.c18 a).1] at e;cases e
theorem uk.not17(h:uk A BC r W0 X b g q o l G k d dn V w)(e:dn 17=false):dn 18=false:=by
 cases a:dn 18
 .rfl
 rw[(h.c18 a).2] at e;cases e
theorem uk.not16(h:uk A BC r W0 X b g q o l G k d dn V w)(e:dn 16=false):dn 18=false/\dn 17=false:=by
 have a:dn 17=false:=by
  cases c:dn 17
  .rfl
  rw[h.c17 c] at e;cases e
 exact⟨h.not17 a,a⟩
theorem up(h:dn j=true):xh dn i j=true:=by
 by_cases e:j=i
 .rw[e];exact J7 dn i
 rw[pq e];exact h
theorem uk.put(h:uk A BC r W0 X b g q o l G k d dn V w)(hi:i<16)(x:v=ade BC r G k o l (q o l) d i)(m:i=15->dn 13=true):uk A BC r W0 X b g q o l G k d (xh dn i) (upd V i v) w:=by
 have c:xh dn i 18=dn 18:=pq (by omega);have f:xh dn i 17=dn 17:=pq (by omega);have n:xh dn i 16=dn 16:=pq (by omega);refine⟨λj s hd => ?_,λhd=>h.cut (c▸hd),λhd=>h.fin (c▸hd),λa p => ?_,λa => ?_,λa => ?_,λa => ?_⟩
 .by_cases e:j=i
  .rw[e,Ti];exact x
  rw[Em V v e];rw[pq e] at hd;exact h.val j s hd
 .rw[n] at a;rw[c] at p;obtain⟨u,st,z,t,B⟩:=h.ent a p;exact⟨u,st,by rw[Em V v (by omega)];exact z,λy=>by rw[Em V v (by omega)];exact t (f▸y),B⟩
 .rw[c] at a;exact⟨up (h.c18 a).1,up (h.c18 a).2⟩
 .by_cases e:15=i
  .exact up (m e.symm)
  rw[pq e] at a;exact up (h.c15 a)
 rw[f] at a;exact up (h.c17 a)
theorem uk.entry(h:uk A BC r W0 X b g q o l G k d dn V w)(E:dn 16=false){t:Value}{n:World}(m:la n r q)(c:rt r w n)(hs:∀v:Int,∃e,(Instr.entryStore 137 (.map (some r)) (goInt R) (.int .i64 v)).run prog n = .ok () e/\la e r (sl q o l v)/\rt r w e):uk A BC r W0 X b g q o l G k d (xh dn 16) (upd V 16 (.tuple #[t,goInt R])) n:=by
 obtain⟨f,s⟩:=h.not16 E;have p:xh dn 16 18=dn 18:=pq (by omega);have z:xh dn 16 17=dn 17:=pq (by omega);refine⟨λj B hd => ?_,λhd=>(h.cut f).store m c,λhd => ?_,λa F => ?_,λa => ?_,λa => ?_,λa => ?_⟩
 .rw[Em V _ (by omega)];rw[pq (by omega)] at hd;exact h.val j B hd
 .rw[p,f] at hd;cases hd
 .refine⟨t,R,Ti _ _ _,λu => ?_,λv => ?_⟩
  .rw[z,s] at u;cases u
  obtain⟨e,a1,D,i⟩:=hs v;exact⟨e,a1,D,⟨i.os.trans c.os.symm,i.tape.trans c.tape.symm,i.output.trans c.output.symm,i.size.trans c.size.symm,λx y=>(i.block x y).trans (c.block x y).symm⟩⟩
 .rw[p,f] at a;cases a
 .rw[pq (by omega)] at a;exact up (h.c15 a)
 exact J7 dn 16
theorem uk.extract(h:uk A BC r W0 X b g q o l G k d dn V w)(u:dn 17=false)(i:dn 16=true){n:Value}(p:V 16 = .tuple #[n,goInt R]):uk A BC r W0 X b g q o l G k d (xh dn 17) (upd V 17 (goInt R)) w:=by
 have c:=h.not17 u;have f:xh dn 17 18=dn 18:=pq (by omega);refine⟨λj y hd => ?_,λhd=>h.cut c,λhd => ?_,λa D => ?_,λa => ?_,λa => ?_,λa=>up i⟩
 .rw[Em V _ (by omega)];rw[pq (by omega)] at hd;exact h.val j y hd
 .rw[f,c] at hd;cases hd
 .obtain⟨t,m,a1,B,z⟩:=h.ent i c;have x:goInt m=goInt R:=by
   have e:=a1.symm.trans p;simp only[Value.tuple.injEq] at e;have s:(#[t,goInt m]:Array Value)[1]?=(#[n,goInt R]:Array Value)[1]?:=by rw[e]
   simpa using s
  refine⟨n,R,by rw[Em V _ (by omega)];exact p,λ_=>Ti _ _ _,λv => ?_⟩;rw[<-x];exact z v
 .rw[f,c] at a;cases a
 rw[pq (by omega)] at a;exact up (h.c15 a)
theorem uk.store(h:uk A BC r W0 X b g q o l G k d dn V w)(t:dn 18=false)(f:dn 15=true)(i:dn 17=true){e:World}(m:la e r (sl q o l (q o l+d)))(s:rt r w e)(v:Value):uk A BC r W0 X b g q o l G k d (xh dn 18) (upd V 18 v) e:=by
 have c:xh dn 18 18=true:=J7 dn 18;refine⟨λj p hd => ?_,λhd => ?_,λ_=>(h.cut t).store m s,λa n => ?_,λ_=>⟨up f,up i⟩,λa => ?_,λa => ?_⟩
 .rw[Em V _ (by omega)];rw[pq (by omega)] at hd;exact h.val j p hd
 .rw[c] at hd;cases hd
 .rw[c] at n;cases n
 .rw[pq (by omega)] at a;exact up (h.c15 a)
 rw[pq (by omega)] at a;exact up (h.c17 a)
end
theorem Sa(p:Pl)(A J r:Nat)(W0:World)(x:St)(b g:Nat)(n:Int)(w:World)(h:gw A J r W0 x b g (λ_ _=>0) w)(f:cx p x)(H : -100000<=n/\n<=100000)(hq:∀o l,lr (ce x b g) (max 0 n) (mq x) o l<=100000):
  Calls prog 106 #[.pointer (some ⟨J,0,none⟩),.int .i64 n] w λe w'=>e = .returned (.tuple #[])/\gw A J r W0 (withHolds (np x (lr (ce x b g) (max 0 n) (mq x))) (cq (ce x b g) x.hs (max 0 n))) b g (lr (ce x b g) (max 0 n) (mq x)) w':=by
 have S:Hid (gw A J r W0 (withHolds (np x (λ_ _=>0)) ⟨x.hs.a,x.hs.n,x.hs.c,x.hs.z⟩) b g (λ_ _=>0) w):=by
  show gw A J r W0 (withHolds (np x (λ_ _=>0)) x.hs) b g (λ_ _=>0) w;rw[Vt];exact h
 have HM:Hid (xj x b g n x.hs.n n x.hs.z (λ_ _=>0)):=⟨rfl,λo l=>Int.zero_add _,λ_ _=>Int.le_refl _,λj hj=>by have:=f.holdN j hj;omega,λ_ _=>⟨rfl,rfl,rfl⟩,by omega,Or.inl rfl⟩;obtain⟨u,-,-,P,-,-,-,-,-,-,-⟩:=h.boxed;have mc:=h.own.hs.2.1;have ml:=h.own.hs.1;unfold maxLen at mc;have fl:=f.hs72;have HF:=hid f;have HQ:=hid hq;clear h f hq;go_enter func106,ntmps106;go_wp2_with fail;clear u P
 go_loopw [1,4] (λnv iv F=>∃(i:Nat) (m:Int) (z:Nat->Hd) (q:Int->Int->Int),i<=x.hs.n/\iv = .int .i64 ((i:Int)-1)/\nv = .int .i64 m/\Hid (gw A J r W0 (withHolds (np x q) ⟨x.hs.a,x.hs.n,x.hs.c,z⟩) b g q F)/\Hid (xj x b g n i m z q)) (λ_ iv _=>(intOf iv+1).toNat)
 case atStart=>exact⟨x.hs.n,n,x.hs.z,λ_ _=>0,Nat.le_refl _,rfl,rfl,S,HM⟩
 clear S HM;obtain⟨i,m,z,q,hi,rfl,rfl,S,HM⟩:=hrel;have fo:=HM.out.le;by_cases hd:i=0\/m<=0
 .have HD:Hid (z=l7 (ce x b g) x.hs.n (max 0 n) x.hs.z/\q=lr (ce x b g) (max 0 n) (mq x)):=HM.out.done hi hd;obtain⟨u,-,-,P,-,-,-,-,-,-,-⟩:=S.out.boxed;have cu:wr.cell? ⟨J,2,none⟩=some (.slice x.hs.a x.hs.n x.hs.c):=P;have bq:Hid (Calls prog 97 #[.slice x.hs.a x.hs.n x.hs.c,.func (.func 150) #[] #[]] wr λe w'=>e = .returned (.slice x.hs.a (cq (ce x b g) x.hs (max 0 n)).n x.hs.c)/\ai A w' (withHolds (np x q) (cq (ce x b g) x.hs (max 0 n)))/\Below A wr w'/\(∀q t m g,t≠61->Blk wr q t m g->Blk w' q t m g)/\KeepsOthers wr w'):=by
   have hz:=HD.out.1;have hD:=X6 150 #[] ts A (withHolds (np x q) ⟨x.hs.a,x.hs.n,x.hs.c,z⟩) wr S.out.le S.out.own (enters_of func150 (by kernel_rfl) rfl) (λy wz _=>by rw[Array.append_empty];exact Ra y wz);rw[hz] at hD;exact hD
  clear P;by_cases fp:i=0
  .have q1:¬(0:Int)<=(i:Int)-1:=by omega
   go_wp2_with fail;refine bq.out.mono ?_;rintro e w2 ⟨rfl,bg,bh,a9,bj⟩;have HN:Hid (gw A J r W0 (withHolds (np x (lr (ce x b g) (max 0 n) (mq x))) (cq (ce x b g) x.hs (max 0 n))) b g (lr (ce x b g) (max 0 n) (mq x)) (w2.setCell ⟨J,2,none⟩ (.slice x.hs.a (cq (ce x b g) x.hs (max 0 n)).n x.hs.c))):=by
    have h:=S.out.newHolds (m:=cq (ce x b g) x.hs (max 0 n)) bg bh a9 bj;rw[HD.out.2] at h;exact h
   have bx:=a9 _ _ _ _ (by decide) S.out.box;have y1:=bx.lt;have y2:=bx.frozen 2;have y3:=bx.k 2;clear bg bh a9 bj bx bq S HM u cu;go_wp2_with fail
   go_end0
   exact⟨rfl,HN.out⟩
  have fn:m<=0:=by omega
  have q1:(0:Int)<=(i:Int)-1:=by omega
  have q2:¬0<m:=by omega
  go_wp2_with fail;refine bq.out.mono ?_;rintro e w2 ⟨rfl,bg,bh,a9,bj⟩;have HN:Hid (gw A J r W0 (withHolds (np x (lr (ce x b g) (max 0 n) (mq x))) (cq (ce x b g) x.hs (max 0 n))) b g (lr (ce x b g) (max 0 n) (mq x)) (w2.setCell ⟨J,2,none⟩ (.slice x.hs.a (cq (ce x b g) x.hs (max 0 n)).n x.hs.c))):=by
   have h:=S.out.newHolds (m:=cq (ce x b g) x.hs (max 0 n)) bg bh a9 bj;rw[HD.out.2] at h;exact h
  have bx:=a9 _ _ _ _ (by decide) S.out.box;have y1:=bx.lt;have y2:=bx.frozen 2;have y3:=bx.k 2;clear bg bh a9 bj bx bq S HM u cu;go_wp2_with fail
  go_end0
  exact⟨rfl,HN.out⟩
 obtain⟨k,rfl⟩:∃k,i=k+1:=⟨i-1,by omega⟩;have hk:k<x.hs.n:=by omega
 have q1:(0:Int)<=(k:Int):=by omega
 have q2:0<m:=by omega
 have q3:(k:Int)<(x.hs.n:Int):=by omega
 have e1:(((k+1:Nat):Int)-1)=(k:Int):=by omega
 rw[e1];obtain⟨cg,cp,du⟩:=HM.out.key k hk;obtain⟨a1,a2,a3⟩:=i8 (HF.out.home k hk);obtain⟨o,ho⟩:=Qzz a1.1;obtain⟨l,hl⟩:=Qzz a2.1;rw[ho] at a1 a2;rw[hl] at a2;have on:o<x.os.n:=a1.2;have ln:l<(x.os.z o).ls.n:=a2.2;have o4:o<4:=by have:=HF.out.os4;omega
 have l3:l<3:=by have:=(HF.out.lns o on).2;omega
 have X:=qa2 (cg.trans ho) (cp.trans hl);have cj:Hid (jw x (z k)=((x.os.z o).ls.z l).o):=by show jw x (z k)=_;unfold jw;rw[X.out.1,X.out.2];rfl
 obtain⟨G,hG,di,-⟩:=S.out.own.hs.2.2.2 (show 0<x.hs.n by omega);obtain⟨gO,B,hO,-,-,-,hB,-,-,nc,cc,-⟩:=S.out.own.lineCell (o:=o) (l:=l) on ln;have L:=qa3 hG hO hB;have fm:(x.os.z o).ls.n<=(x.os.z o).ls.c:=nc;have c8:(x.os.z o).ls.c<=maxLen:=cc;have oc:x.os.c<=maxLen:=S.out.own.os.cap;have fj:x.os.n<=x.os.c:=S.out.own.os.le;unfold maxLen at c8 oc;have zp:=HM.out.pos k hk;have bl0:=er (HF.out.line o on l ln);have qo:=HM.out.q0 o l;have qle:=Int.le_trans (HM.out.qle hi o l) (HQ.out o l);have s0:(0:Int)<=(o:Int):=by omega
 have s1:(o:Int)<(x.os.n:Int):=by omega
 have s2:(0:Int)<=(l:Int):=by omega
 have s3:(l:Int)<((x.os.z o).ls.n:Int):=by omega
 clear cg cp du a1 a2 a3 ho hl hG hO hB nc cc hd e1 di;obtain⟨u,u1,P,u7,u8,u9,gl,W,U,T,z3,ol,c4,bl,Q,Y,fG,fB,ne⟩:=xy S.out hk X.out.1 X.out.2 on ln L.out.1 L.out.2.1 L.out.2.2;have e1:(((k+1:Nat):Int)-1)=(k:Int):=by omega
 go_wp2_with fail;clear u u1 P u7 u8 u9 gl W U T z3 ol c4 bl Q Y fG fB ne;obtain⟨u,u1,P,u7,u8,u9,gl,W,U,T,z3,ol,c4,bl,Q,Y,fG,fB,ne⟩:=xy S.out hk X.out.1 X.out.2 on ln L.out.1 L.out.2.1 L.out.2.2;clear fG fB ne z3 Y u9;have a4:=Qqq u1;have a8:=Qqq P;have a0:=Qqq u7;have av:=Qqq u8;have a5:=Qqq W;have bb:=Qqq U;have ay:=Qqq T;have ar:=Qqq c4;have aw:=Qqq Q;refine Qxq (by kernel_rfl) (by kernel_rfl) ?_
 repeat(go_big_quiet_step(fail))
 refine Qqz ?_;intro _ au;obtain⟨⟨dq,M⟩,ag⟩:=au;subst ag;have ah:Hid (gw A J r W0 (withHolds (np x q) ⟨x.hs.a,x.hs.n,x.hs.c,z⟩) b g q (grow (redrawn wr dq) M)):=S.out.below (Qxx wr dq M);clear a4 a8 a0 av a5 bb ay ar aw u u1 P u7 u8 gl W U T ol c4 bl Q S
 generalize grow (redrawn wr dq) M=wa at *
 generalize hZB:(z k).b=ZB at *
 generalize hZO:((x.os.z o).ls.z l).o=ZO at *
 have HZ:=qa2 hZB cj.out;have b4:=hid hZO;clear hZB hZO;cases h1:(ZB==(b:Int))
 .have HN:Hid (xj x b g n k m z q):=HM.out.miss (λe=>by rw[HZ.out.1] at e;simp at h1;omega);have dm:(ZB !=(b:Int))=true:=by simp at h1 ⊢;omega
  go_wp2_with fail;obtain⟨u,u1,P,u7,u8,u9,gl,W,U,T,z3,ol,c4,bl,Q,Y,fG,fB,ne⟩:=xy ah.out hk X.out.1 X.out.2 on ln L.out.1 L.out.2.1 L.out.2.2;clear fG fB ne z3 Y u9;rw[HZ.out.1] at T;rw[b4.out] at Q;have a4:=Qqq u1;have a8:=Qqq P;have a0:=Qqq u7;have av:=Qqq u8;have a5:=Qqq W;have bb:=Qqq U;have ay:=Qqq T;have ar:=Qqq c4;have aw:=Qqq Q;refine Qxq (by kernel_rfl) (by kernel_rfl) ?_
  repeat(go_big_quiet_step(fail))
  refine Qqz ?_;intro _ au;obtain⟨⟨dq,M⟩,ag⟩:=au;subst ag;have ba:Hid (gw A J r W0 (withHolds (np x q) ⟨x.hs.a,x.hs.n,x.hs.c,z⟩) b g q (grow (redrawn wa dq) M)):=ah.out.below (Qxx wa dq M);clear a4 a8 a0 av a5 bb ay ar aw u u1 P u7 u8 gl W U T ol c4 bl Q ah
  generalize grow (redrawn wa dq) M=wz at *
  go_wp2_with fail;go_roundw
  case rel=>exact⟨k,m,z,q,by omega,by go_num,rfl,ba,HN⟩
  case measure=>simp[intOf]
 have dm:(ZB !=(b:Int))=false:=by simp at h1 ⊢;omega
 cases h2:(ZO==(g:Int))
 .have HN:Hid (xj x b g n k m z q):=HM.out.miss (λe=>by rw[HZ.out.2] at e;simp at h2;omega);have ds:(ZO !=(g:Int))=true:=by simp at h2 ⊢;omega
  go_wp2_with fail;obtain⟨u,u1,P,u7,u8,u9,gl,W,U,T,z3,ol,c4,bl,Q,Y,fG,fB,ne⟩:=xy ah.out hk X.out.1 X.out.2 on ln L.out.1 L.out.2.1 L.out.2.2;clear fG fB ne z3 Y u9;rw[HZ.out.1] at T;rw[b4.out] at Q;have a4:=Qqq u1;have a8:=Qqq P;have a0:=Qqq u7;have av:=Qqq u8;have a5:=Qqq W;have bb:=Qqq U;have ay:=Qqq T;have ar:=Qqq c4;have aw:=Qqq Q;refine Qxq (by kernel_rfl) (by kernel_rfl) ?_
  repeat(go_big_quiet_step(fail))
  refine Qqz ?_;intro _ au;obtain⟨⟨dq,M⟩,ag⟩:=au;subst ag;have ba:Hid (gw A J r W0 (withHolds (np x q) ⟨x.hs.a,x.hs.n,x.hs.c,z⟩) b g q (grow (redrawn wa dq) M)):=ah.out.below (Qxx wa dq M);clear a4 a8 a0 av a5 bb ay ar aw u u1 P u7 u8 gl W U T ol c4 bl Q ah
  generalize grow (redrawn wa dq) M=wz at *
  go_wp2_with fail;go_roundw
  case rel=>exact⟨k,m,z,q,by omega,by go_num,rfl,ba,HN⟩
  case measure=>simp[intOf]
 have ds:(ZO !=(g:Int))=false:=by simp at h2 ⊢;omega
 have HN:Hid (xj x b g n k (m-min m (z k).n) (ig z k (min m (z k).n)) (sl q o l (q o l+min m (z k).n))):=HM.out.hit hk q2 (by rw[HZ.out.1];simpa using h1) (by rw[HZ.out.2];simpa using h2) X.out.1 X.out.2;go_wp2_with fail;obtain⟨u,u1,P,u7,u8,u9,gl,W,U,T,z3,ol,c4,bl,Q,Y,fG,fB,ne⟩:=xy ah.out hk X.out.1 X.out.2 on ln L.out.1 L.out.2.1 L.out.2.2;clear fG fB ne z3 Y u9;rw[HZ.out.1] at T;rw[b4.out] at Q;have a4:=Qqq u1;have a8:=Qqq P;have a0:=Qqq u7;have av:=Qqq u8;have a5:=Qqq W;have bb:=Qqq U;have ay:=Qqq T;have ar:=Qqq c4;have aw:=Qqq Q;refine Qxq (by kernel_rfl) (by kernel_rfl) ?_
 repeat(go_big_quiet_step(fail))
 refine Qqz ?_;intro _ au;obtain⟨⟨dq,M⟩,ag⟩:=au;subst ag;have ba:Hid (gw A J r W0 (withHolds (np x q) ⟨x.hs.a,x.hs.n,x.hs.c,z⟩) b g q (grow (redrawn wa dq) M)):=ah.out.below (Qxx wa dq M);clear a4 a8 a0 av a5 bb ay ar aw u u1 P u7 u8 gl W U T ol c4 bl Q ah
 generalize grow (redrawn wa dq) M=wz at *
 obtain⟨u,u1,P,u7,u8,u9,gl,W,U,T,z3,ol,c4,bl,Q,Y,fG,fB,ne⟩:=xy ba.out hk X.out.1 X.out.2 on ln L.out.1 L.out.2.1 L.out.2.2;have f1:=fG (k*4+3);have f2:=fB (l*4+3);have ne2:¬B=G:=λe=>ne e.symm;have bm:Hid (gw A J r W0 (withHolds (np x (sl q o l (q o l+min m (z k).n))) ⟨x.hs.a,x.hs.n,x.hs.c,ig z k (min m (z k).n)⟩) b g q ((wz.setCell ⟨G,k*4+3,none⟩ (.int .i64 ((z k).n-min m (z k).n))).setCell ⟨B,l*4+3,none⟩ (.int .i64 (((x.os.z o).ls.z l).n+q o l+min m (z k).n)))):=by
  have h1:=ba.out.holdN (i:=k) (G:=G) hk L.out.1 (min m (z k).n);have h2:=h1.back (o:=o) (B:=B) on L.out.2.2 l (((x.os.z o).ls.z l).n+q o l+min m (z k).n);have e:setLine (withHolds (withHolds (np x q) ⟨x.hs.a,x.hs.n,x.hs.c,z⟩) (Cw ⟨x.hs.a,x.hs.n,x.hs.c,z⟩ k (min m (z k).n))) o l 3 (((x.os.z o).ls.z l).n+q o l+min m (z k).n)=withHolds (setLine (np x q) o l 3 (((x.os.z o).ls.z l).n+q o l+min m (z k).n)) ⟨x.hs.a,x.hs.n,x.hs.c,ig z k (min m (z k).n)⟩:=rfl;rw[aav] at e;rw[<-e];exact h2
 have bw:Hid ((ig z k (min m (z k).n) k).o=(o:Int)/\(ig z k (min m (z k).n) k).l=(l:Int)):=by
  have e:ig z k (min m (z k).n) k=jc (z k) (min m (z k).n):=if_pos rfl;show(ig z k (min m (z k).n) k).o=(o:Int)/\(ig z k (min m (z k).n) k).l=(l:Int);rw[e];exact X.out
 obtain⟨X3,bo⟩:∃X3,withHolds (np x (sl q o l (q o l+min m (z k).n))) ⟨x.hs.a,x.hs.n,x.hs.c,ig z k (min m (z k).n)⟩=X3:=⟨_,rfl⟩;have ci:=hid bo;have b7:Hid (∀F q',gw A J r W0 X3 b g q' F->J<F.heap.size/\F.cell? ⟨J,9,none⟩=some (.map (some r))/\G<F.heap.size/\F.cell? ⟨G,k*4,none⟩=some (.int .i64 (o:Int))/\F.cell? ⟨G,k*4+1,none⟩=some (.int .i64 (l:Int))):=λF q' hc=>by
  rw[<-bo] at hc;obtain⟨u,u1,P,u7,u8,u9,gl,W,U,-⟩:=xy (z:=ig z k (min m (z k).n)) hc hk bw.out.1 bw.out.2 on ln L.out.1 L.out.2.1 L.out.2.2;exact⟨u,u9,gl,W,U⟩
 rw[bo] at bm;clear ba fG fB HM cj bo bw;have qB : -9223372036854775808<=q o l+min m (z k).n/\q o l+min m (z k).n<=9223372036854775807:=by omega
 obtain⟨MM,dd⟩:∃MM,min m (z k).n=MM:=⟨_,rfl⟩;rw[dd] at bm ci HN qB;have fq:0<=MM/\MM<=200/\MM<=m/\MM<=(z k).n:=by omega
 generalize (z k).n=ZN at *
 generalize ((x.os.z o).ls.z l).n=LN at *
 go_wp2_with fail;obtain⟨w3,ct⟩:∃w3,((wz.setCell ⟨G,k*4+3,none⟩ (.int .i64 (ZN-MM))).setCell ⟨B,l*4+3,none⟩ (.int .i64 (LN+q o l+MM)))=w3:=⟨_,rfl⟩;rw[ct] at bm ⊢;clear ct u u1 P u7 u8 u9 gl W U T z3 ol c4 bl Q Y f1 f2 ne ne2;have cy:Hid (gw A J r W0 X3 b g q w3.drew):=bm.out.below (brf.drew);refine Rc [0,1,2,3,4,5,6,7,8,9,10,11,12,13,14,15,16,17,18] (by kernel_rfl) (by kernel_rfl) (by kernel_rfl) (by kernel_rfl) (uk A J r W0 X3 b g q o l G k MM) ?zei (Qjx ⟨?ze0,Qjx ⟨?ze1,Qjx ⟨?ze2,Qjx ⟨?ze3,Qjx ⟨?ze4,Qjx ⟨?ze5,Qjx ⟨?ze6,Qjx ⟨?ze7,Qjx ⟨?ze8,Qjx ⟨?ze9,Qjx ⟨?ze10,Qjx ⟨?ze11,Qjx ⟨?ze12,Qjx ⟨?ze13,Qjx ⟨?ze14,Qjx ⟨?ze15,Qjx ⟨?ze16,Qjx ⟨?ze17,Qjx ⟨?ze18,Qjq _⟩⟩⟩⟩⟩⟩⟩⟩⟩⟩⟩⟩⟩⟩⟩⟩⟩⟩⟩) ?zed
 case zei =>
  intro D V hd;have f:∀j,j∈[0,1,2,3,4,5,6,7,8,9,10,11,12,13,14,15,16,17,18]->¬D j=true:=λj hj h=>by rw[hd j hj] at h;cases h
  exact⟨λj hj h=>absurd h (f j (by simp only[List.mem_cons,List.not_mem_nil,or_false];omega)),λ_=>cy.out,λh=>absurd h (f 18 (by simp)),λh=>absurd h (f 16 (by simp)),λh=>absurd h (f 18 (by simp)),λh=>absurd h (f 15 (by simp)),λh=>absurd h (f 17 (by simp))⟩
 case ze0 =>
  intro D V F K H hd d E;have s:=hid d;clear d;refine aq 0 rfl ?_;simp only[ap,az,Qvz,Qwq,Qvx,Act.put,Qvq,Qwx,Qwz] at E ⊢;go_wp2_with fail;exact s.out.put (i:=0) (by decide) rfl (λh=>absurd h (by decide))
 case ze1 =>
  intro D V F K H hd d E;have Q:D 0=true:=hd 0 (Qjz (by kernel_rfl)) (by simp);have e0:V 0 = .pointer (some ⟨J,0,none⟩):=d.val 0 (by decide) Q;have s:=hid d;clear d;refine aq 1 rfl ?_;simp only[ap,az,Qvz,Qwq,Qvx,Act.put,Qvq,Qwx,Qwz,e0] at E ⊢;go_wp2_with fail;exact s.out.put (i:=1) (by decide) rfl (λh=>absurd h (by decide))
 case ze2 =>
  intro D V F K H hd d E;have d1:D 1=true:=hd 1 (Qjz (by kernel_rfl)) (by simp);have e1:V 1 = .pointer (some ⟨J,0,none⟩):=d.val 1 (by decide) d1;have s:=hid d;clear d;refine aq 2 rfl ?_;simp only[ap,az,Qvz,Qwq,Qvx,Act.put,Qvq,Qwx,Qwz,e1] at E ⊢;go_wp2_with fail;exact s.out.put (i:=2) (by decide) rfl (λh=>absurd h (by decide))
 case ze3 =>
  intro D V F K H hd d E;have d2:D 2=true:=hd 2 (Qjz (by kernel_rfl)) (by simp);have e2:V 2 = .pointer (some ⟨J,9,none⟩):=d.val 2 (by decide) d2;have s:=hid d;obtain⟨q',al⟩:=d.any;obtain⟨y1,y2,y3,y4,y5⟩:=b7.out F q' al;clear al;clear d;refine aq 3 rfl ?_;simp only[ap,az,Qvz,Qwq,Qvx,Act.put,Qvq,Qwx,Qwz,e2] at E ⊢;go_wp2_with fail;exact s.out.put (i:=3) (by decide) rfl (λh=>absurd h (by decide))
 case ze4 =>
  intro D V F K H hd d E;have s:=hid d;clear d;refine aq 4 rfl ?_;simp only[ap,az,Qvz,Qwq,Qvx,Act.put,Qvq,Qwx,Qwz] at E ⊢;go_wp2_with fail;exact s.out.put (i:=4) (by decide) rfl (λh=>absurd h (by decide))
 case ze5 =>
  intro D V F K H hd d E;have d4:D 4=true:=hd 4 (Qjz (by kernel_rfl)) (by simp);have e4:V 4 = .pointer (some ⟨G,k*4,none⟩):=d.val 4 (by decide) d4;have s:=hid d;clear d;refine aq 5 rfl ?_;simp only[ap,az,Qvz,Qwq,Qvx,Act.put,Qvq,Qwx,Qwz,e4] at E ⊢;go_wp2_with fail;exact s.out.put (i:=5) (by decide) rfl (λh=>absurd h (by decide))
 case ze6 =>
  intro D V F K H hd d E;have d5:D 5=true:=hd 5 (Qjz (by kernel_rfl)) (by simp);have e5:V 5 = .pointer (some ⟨G,k*4,none⟩):=d.val 5 (by decide) d5;have s:=hid d;clear d;refine aq 6 rfl ?_;simp only[ap,az,Qvz,Qwq,Qvx,Act.put,Qvq,Qwx,Qwz,e5] at E ⊢;go_wp2_with fail;exact s.out.put (i:=6) (by decide) rfl (λh=>absurd h (by decide))
 case ze7 =>
  intro D V F K H hd d E;have d6:D 6=true:=hd 6 (Qjz (by kernel_rfl)) (by simp);have e6:V 6 = .pointer (some ⟨G,k*4,none⟩):=d.val 6 (by decide) d6;have s:=hid d;obtain⟨q',al⟩:=d.any;obtain⟨y1,y2,y3,y4,y5⟩:=b7.out F q' al;clear al;clear d;refine aq 7 rfl ?_;simp only[ap,az,Qvz,Qwq,Qvx,Act.put,Qvq,Qwx,Qwz,e6] at E ⊢;go_wp2_with fail;exact s.out.put (i:=7) (by decide) rfl (λh=>absurd h (by decide))
 case ze8 =>
  intro D V F K H hd d E;have s:=hid d;clear d;refine aq 8 rfl ?_;simp only[ap,az,Qvz,Qwq,Qvx,Act.put,Qvq,Qwx,Qwz] at E ⊢;go_wp2_with fail;exact s.out.put (i:=8) (by decide) rfl (λh=>absurd h (by decide))
 case ze9 =>
  intro D V F K H hd d E;have d8:D 8=true:=hd 8 (Qjz (by kernel_rfl)) (by simp);have e8:V 8 = .pointer (some ⟨G,k*4,none⟩):=d.val 8 (by decide) d8;have s:=hid d;clear d;refine aq 9 rfl ?_;simp only[ap,az,Qvz,Qwq,Qvx,Act.put,Qvq,Qwx,Qwz,e8] at E ⊢;go_wp2_with fail;exact s.out.put (i:=9) (by decide) rfl (λh=>absurd h (by decide))
 case ze10 =>
  intro D V F K H hd d E;have d9:D 9=true:=hd 9 (Qjz (by kernel_rfl)) (by simp);have e9:V 9 = .pointer (some ⟨G,k*4,none⟩):=d.val 9 (by decide) d9;have s:=hid d;clear d;refine aq 10 rfl ?_;simp only[ap,az,Qvz,Qwq,Qvx,Act.put,Qvq,Qwx,Qwz,e9] at E ⊢;go_wp2_with fail;exact s.out.put (i:=10) (by decide) rfl (λh=>absurd h (by decide))
 case ze11 =>
  intro D V F K H hd d E;have eb:D 10=true:=hd 10 (Qjz (by kernel_rfl)) (by simp);have dr:V 10 = .pointer (some ⟨G,k*4+1,none⟩):=d.val 10 (by decide) eb;have s:=hid d;obtain⟨q',al⟩:=d.any;obtain⟨y1,y2,y3,y4,y5⟩:=b7.out F q' al;clear al;clear d;refine aq 11 rfl ?_;simp only[ap,az,Qvz,Qwq,Qvx,Act.put,Qvq,Qwx,Qwz,dr] at E ⊢;go_wp2_with fail;exact s.out.put (i:=11) (by decide) rfl (λh=>absurd h (by decide))
 case ze12 =>
  intro D V F K H hd d E;have d7:D 7=true:=hd 7 (Qjz (by kernel_rfl)) (by simp);have e7:V 7 = .int .i64 (o:Int):=d.val 7 (by decide) d7;have dl:D 11=true:=hd 11 (Qjz (by kernel_rfl)) (by simp);have dy:V 11 = .int .i64 (l:Int):=d.val 11 (by decide) dl;have s:=hid d;clear d;refine aq 12 rfl ?_;simp only[ap,az,Qvz,Qwq,Qvx,Act.put,Qvq,Qwx,Qwz,e7,dy] at E ⊢;go_wp2_with fail;exact s.out.put (i:=12) (by decide) rfl (λh=>absurd h (by decide))
 case ze13 =>
  intro D V F K H hd d E;have Y:D 3=true:=hd 3 (Qjz (by kernel_rfl)) (by simp);have e3:V 3 = .map (some r):=d.val 3 (by decide) Y;have b3:D 12=true:=hd 12 (Qjz (by kernel_rfl)) (by simp);have b2:V 12 = .agg #[.int .i64 (o:Int),.int .i64 (l:Int)]:=d.val 12 (by decide) b3;have s:=hid d;have lk:=Sz (d.cut (d.not13 H)).map o4 l3;unfold ou at lk;clear d;refine aq 13 rfl ?_;simp only[ap,az,Qvz,Qwq,Qvx,Act.put,Qvq,Qwx,Qwz,e3,b2] at E ⊢;go_wp2_with fail;exact s.out.put (i:=13) (by decide) rfl (λh=>absurd h (by decide))
 case ze14 =>
  intro D V F K H hd d E;have s:=hid d;clear d;refine aq 14 rfl ?_;simp only[ap,az,Qvz,Qwq,Qvx,Act.put,Qvq,Qwx,Qwz] at E ⊢;go_wp2_with fail;exact s.out.put (i:=14) (by decide) rfl (λh=>absurd h (by decide))
 case ze15 =>
  intro D V F K H hd d E;have ch:D 13=true:=hd 13 (Qjz (by kernel_rfl)) (by simp);have dz:V 13 = .int .i64 (q o l):=d.val 13 (by decide) ch;have c9:D 14=true:=hd 14 (Qjz (by kernel_rfl)) (by simp);have dv:V 14 = .int .i64 MM:=d.val 14 (by decide) c9;have s:=hid d;clear d;have fk:=qB;refine aq 15 rfl ?_;simp only[ap,az,Qvz,Qwq,Qvx,Act.put,Qvq,Qwx,Qwz,dz,dv] at E ⊢;go_wp2_with fail;exact s.out.put (i:=15) (by decide) rfl (λ_=>ch)
 case ze16 =>
  intro D V F K H hd d E;have Y:D 3=true:=hd 3 (Qjz (by kernel_rfl)) (by simp);have e3:V 3 = .map (some r):=d.val 3 (by decide) Y;have b3:D 12=true:=hd 12 (Qjz (by kernel_rfl)) (by simp);have b2:V 12 = .agg #[.int .i64 (o:Int),.int .i64 (l:Int)]:=d.val 12 (by decide) b3;have s:=hid d;obtain⟨v0,st,w1,ec,cs,cn,cr⟩:=Zm (d.cut (d.not16 H).1).map o4 l3;unfold ou at ec;have b5:Hid (rt r F w1/\la w1 r q/\∀v:Int,∃w2,(Instr.entryStore 137 (.map (some r)) (goInt st) (.int .i64 v)).run prog w1 = .ok () w2/\la w2 r (sl q o l v)/\rt r F w2):=⟨cs,cn,cr⟩;clear cs cn cr;clear d;refine aq 16 rfl ?_;simp only[ap,az,Qvz,Qwq,Qvx,Act.put,Qvq,Qwx,Qwz,e3,b2] at E ⊢;go_wp2_with fail;exact s.out.entry H b5.out.2.1 b5.out.1 b5.out.2.2
 case ze17 =>
  intro D V F K H hd d E;have cl:D 16=true:=hd 16 (Qjz (by kernel_rfl)) (by simp);have s:=hid d;obtain⟨v0,st,bp,-,-⟩:=d.ent cl (d.not17 H);have c3:=hid bp;clear d;refine aq 17 rfl ?_;simp only[ap,az,Qvz,Qwq,Qvx,Act.put,Qvq,Qwx,Qwz,bp] at E ⊢;go_wp2_with fail;exact s.out.extract H cl c3.out
 case ze18 =>
  intro D V F K H hd d E;have Y:D 3=true:=hd 3 (Qjz (by kernel_rfl)) (by simp);have e3:V 3 = .map (some r):=d.val 3 (by decide) Y;have ck:D 15=true:=hd 15 (Qjz (by kernel_rfl)) (by simp);have de:V 15 = .int .i64 (q o l+MM):=d.val 15 (by decide) ck;have b6:D 17=true:=hd 17 (Qjz (by kernel_rfl)) (by simp);have s:=hid d;obtain⟨v0,st,bp,bn,es⟩:=d.ent (d.c17 b6) H;have bn:=bn b6;obtain⟨w2,dp,co,cf⟩:=es (q o l+MM);have cm:=qa2 co cf;clear es co cf bp;unfold goInt at dp bn;clear d;refine aq 18 rfl ?_;simp only[ap,az,Qvz,Qwq,Qvx,Act.put,Qvq,Qwx,Qwz,e3,de,bn] at E ⊢;go_wp2_with fail;exact E undef _ (s.out.store H ck b6 cm.out.1 cm.out.2 undef)
 case zed =>
  intro D V F hd d;have ed:Hid (gw A J r W0 X3 b g (sl q o l (q o l+MM)) F):=d.fin (hd 18 (by simp));clear d hd;simp only[ap,az,Qvz,Qwq,Qvx,Act.put,Qvq,Qwx,Qwz];refine NoPanic.normal ?_;go_wp2_with fail;go_roundw
  case rel=>exact⟨k,m-MM,ig z k MM,sl q o l (q o l+MM),by omega,by go_num,by go_num,by rw[ci.out];exact ed,HN⟩
  case measure=>simp[intOf]
def Io(p:Pl)(x0:St)(b:Nat)(q:Int->Int->Int)(i:Nat)(cur:St):Prop:=iq p b (λi j=>q i j) (yd x0) x0 i cur
def ux(p:Pl)(x0:St)(b:Nat)(q:Int->Int->Int)(i j:Nat)(cur:St):Prop:=∃y,Io p x0 b q i y/\lm p b (λi j=>q i j) i y j cur
section
variable {p:Pl} {x0 cur x:St} {b:Nat} {q:Int->Int->Int} {i j:Nat}
theorem ux.next(h:ux p x0 b q i (x0.os.z i).ls.n cur):Io p x0 b q (i+1) cur:=h
theorem Io.row(h:Io p x0 b q i cur):ux p x0 b q i 0 cur:=⟨cur,h,rfl⟩
theorem ux.pos(Q:QIn p b (λi j=>q i j) x0)(h:ux p x0 b q i j cur)(hi:i<x0.os.n)(a:j<=(x0.os.z i).ls.n):Pos p b (λi j=>q i j) x0 i j cur:=by
 obtain⟨y,d,c⟩:=h;exact lm.pos Q (iq.pos Q (λ_ _=>rfl) (Nat.le_of_lt hi) d) hi a c
theorem ux.step(h:ux p x0 b q i j cur)(T:l6 p b cur i j (q i j) x):ux p x0 b q i (j+1) x:=by
 obtain⟨y,c,a⟩:=h;exact⟨y,c,cur,a,T⟩
theorem ux.skip(Q:QIn p b (λi j=>q i j) x0)(h:ux p x0 b q i j cur)(hi:i<x0.os.n)(a:j<(x0.os.z i).ls.n)(d:q i j=0):ux p x0 b q i (j+1) cur:=by
 have I:=(h.pos Q hi (Nat.le_of_lt a)).stepIn Q hi a;have T:=I.tki;have c:i6 p cur i j (q i j):=T;rw[d] at c;refine h.step ?_;rw[d];exact l6.skip c
end
theorem qx{a:Nat}{b:World}{q:Int->Int->Int}(h:ai A w y/\Blk w a 139 10 f/\la w g q/\Below n b w)(c:n<=a)(j:Nat)(u:Value):ai A (w.setCell ⟨a,j,none⟩ u) y/\Blk (w.setCell ⟨a,j,none⟩ u) a 139 10 (λk=>if k=j then u else f k)/\la (w.setCell ⟨a,j,none⟩ u) g q/\Below n b (w.setCell ⟨a,j,none⟩ u):=
 ⟨h.1.boxC h.2.1 j u,h.2.1.set j u,h.2.2.1.set (h.2.1.noMap h.2.2.1) u,h.2.2.2.setCell (p:=⟨a,j,none⟩) c u⟩
theorem gw.newState{e:Nat}{i f:World}{b g:Int}{q:Int->Int->Int}(h:gw A e o i x b g q f)(m:ai A f y):gw A e o i y b g q (set7 f e (.slice y.on.a y.on.n y.on.c) (.slice y.os.a y.os.n y.os.c) (.slice y.hs.a y.hs.n y.hs.c) (.slice y.ms.a y.ms.n y.ms.c) (.slice y.si.a y.si.n y.si.c) (.slice y.so.a y.so.n y.so.c) (.slice y.sf.a y.sf.n y.sf.c)):=by
 have b1:=h.w0;have b2:=h.bc;have d:i.heap.size<=e:=by omega
 have k:=qx (qx (qx (qx (qx (qx (qx ⟨m,h.box,h.map,h.bel⟩ d 0 (.slice y.on.a y.on.n y.on.c)) d 1 (.slice y.os.a y.os.n y.os.c)) d 2 (.slice y.hs.a y.hs.n y.hs.c)) d 3 (.slice y.ms.a y.ms.n y.ms.c)) d 4 (.slice y.si.a y.si.n y.si.c)) d 5 (.slice y.so.a y.so.n y.so.c)) d 6 (.slice y.sf.a y.sf.n y.sf.c);unfold set7;refine⟨k.1,k.2.1.congr λj l => ?_,k.2.2.1,k.2.2.2,by have:=h.le;simpa using this,h.w0,h.bc,h.ra⟩
 match j,l with
 | 0,_=>rfl
 | 1,_=>rfl
 | 2,_=>rfl
 | 3,_=>rfl
 | 4,_=>rfl
 | 5,_=>rfl
 | 6,_=>rfl
 | 7,_=>rfl
 | 8,_=>rfl
 | 9,_=>rfl
theorem ai.cut7{f:Nat}{i e:World}{b g:Int}{q:Int->Int->Int}(h:gw A f o i x b g q e)(j:ai A e s):ai A (Go.Proofs.YtbcacebifpagpagGreat.set7 e f (.slice y.on.a y.on.n y.on.c) (.slice y.os.a y.os.n y.os.c) (.slice y.hs.a y.hs.n y.hs.c) (.slice y.ms.a y.ms.n y.ms.c) (.slice y.si.a y.si.n y.si.c) (.slice y.so.a y.so.n y.so.c) (.slice y.sf.a y.sf.n y.sf.c)) s:=by
 have b1:=h.w0;have b2:=h.bc;have d:i.heap.size<=f:=by omega
 have k:=qx (qx (qx (qx (qx (qx (qx ⟨j,h.box,h.map,h.bel⟩ d 0 (.slice y.on.a y.on.n y.on.c)) d 1 (.slice y.os.a y.os.n y.os.c)) d 2 (.slice y.hs.a y.hs.n y.hs.c)) d 3 (.slice y.ms.a y.ms.n y.ms.c)) d 4 (.slice y.si.a y.si.n y.si.c)) d 5 (.slice y.so.a y.so.n y.so.c)) d 6 (.slice y.sf.a y.sf.n y.sf.c);unfold Go.Proofs.YtbcacebifpagpagGreat.set7;exact k.1
theorem Blk.cut7{B:Nat}{T:TypeId}(h:Blk w B T n f)(ne:B≠b)(k i d c g e j:Value):Blk (set7 w b k i d c g e j) B T n f:=by
 unfold set7;exact((((((h.other (a:=⟨b,0,none⟩) ne k).other (a:=⟨b,1,none⟩) ne i).other (a:=⟨b,2,none⟩) ne d).other (a:=⟨b,3,none⟩) ne c).other (a:=⟨b,4,none⟩) ne g).other (a:=⟨b,5,none⟩) ne e).other (a:=⟨b,6,none⟩) ne j
structure Fo(p:Pl)(x0:St)(A BC r:Nat)(W0:World)(b g:Int)(q:Int->Int->Int)(BP:Nat)(cur:St)(wk:World):Prop where
 own0:ai A wk x0
 cut:gw A BC r W0 cur b g q wk
 plan:Blk wk BP 25 2 (λj=>(#[.slice p.ab p.nb p.cb,.slice p.sa p.ns p.cs]:Array Value).getD j default)
theorem Fo.below{d cur:St}{e f:Nat}{j i:World}{b g:Int}{q:Int->Int->Int}(h:Fo p d A e n j b g q f cur a)(c:Below a.heap.size a i):Fo p d A e n j b g q f cur i:=⟨ai.below h.own0 c,h.cut.below c,h.plan.below c⟩
theorem Kq(p:Pl)(A D r:Nat)(v:World)(f:St)(b g:Nat)(q:Int->Int->Int)(w:World)(h:gw A D r v f b g q w)(hp:∀E,Below v.heap.size v E->p.At E)(Q:QIn p b (λi j=>q i j) f):
  Calls prog 108 #[.pointer (some ⟨D,0,none⟩),p.val] w λe w'=>e = .returned (.tuple #[])/\∃y,iq p b (λi j=>q i j) (yd f) f f.os.n y/\gw A D r v y b g q w':=by
 have HP:Hid (∀E,Below v.heap.size v E->p.At E):=hp;have HQ:Hid (QIn p b (λi j=>q i j) f):=Q;have ol:f.os.n<=f.os.c:=h.own.os.le;have oc:f.os.c<=maxLen:=h.own.os.cap;unfold maxLen at oc;have cd:f.os.n<=4:=Q.r.fm.os4;obtain⟨W1,hW,G,K1⟩:∃W,w.alloc (.cells #[.slice p.ab p.nb p.cb,.slice p.sa p.ns p.cs] 25)=W/\Below w.heap.size w W/\Blk W w.heap.size 25 2 (λj=>(#[.slice p.ab p.nb p.cb,.slice p.sa p.ns p.cs]:Array Value).getD j default):=⟨_,rfl,brf.alloc nlr _,Blk.mk' rfl rfl⟩;have U:Hid (w.alloc (.cells #[.slice p.ab p.nb p.cb,.slice p.sa p.ns p.cs] 25)=W1):=hW;have h':=h.below G;have s:Hid (Fo p f A D r v b g q w.heap.size f W1):=⟨h'.own,h',K1⟩;obtain⟨u,-,u1,-⟩:=h'.boxed;rw[<-U.out] at u u1;clear hW G K1 h h' hp Q;unfold Pl.val;go_enter func108,ntmps108;go_wp2_with fail;rw[U.out];clear u u1 U
 generalize w.heap.size=K at *
 go_loopw [14] (λkv E=>∃(i:Nat) (cur:St),i<=f.os.n/\kv = .int .i64 i/\Hid (Fo p f A D r v b g q K cur E)/\Hid (Io p f b q i cur)) (λkv _=>f.os.n-(intOf kv).toNat)
 case atStart=>exact⟨0,f,Qxz _,rfl,s,af.self f⟩
 clear s;obtain⟨i,cur,hi,rfl,s,HA⟩:=hrel;by_cases H:i<f.os.n;rotate_left
 .have bg:i=f.os.n:=by omega
  subst bg;go_wp2_with fail
  go_end0
  exact⟨rfl,cur,HA.out,s.out.cut⟩
 have q0:(0:Int)<=(i:Int):=by omega
 have q1:(i:Int)<(f.os.n:Int):=by omega
 obtain⟨bo,oo,ao,a0,z0,z1,ae⟩:=s.out.own0.at.os.ods i H;have ll:=ae.le;have lc:=ae.cap;unfold maxLen at lc;have b9:(f.os.z i).ls.n<=3:=(HQ.out.r.fm.lns i H).2;rw[ao];clear ao ae;obtain⟨W,hW,G⟩:∃W,wr.alloc (.cells #[.int .i64 (f.os.z i).k,.slice (f.os.z i).ls.a (f.os.z i).ls.n (f.os.z i).ls.c] 57)=W/\Below wr.heap.size wr W:=⟨_,rfl,brf.alloc nlr _⟩;have U:Hid (wr.alloc (.cells #[.int .i64 (f.os.z i).k,.slice (f.os.z i).ls.a (f.os.z i).ls.n (f.os.z i).ls.c] 57)=W):=hW;have an:Hid (Fo p f A D r v b g q K cur W):=s.out.below G;clear hW G;go_wp2_with fail;rw[U.out];clear z0 z1 a0 U q0 q1
 go_loopw [22] (λjv E=>∃(j:Nat) (t:St),j<=(f.os.z i).ls.n/\jv = .int .i64 j/\Hid (Fo p f A D r v b g q K t E)/\Hid (ux p f b q i j t)) (λjv _=>(f.os.z i).ls.n-(intOf jv).toNat)
 case atStart=>exact⟨0,cur,Qxz _,rfl,an,HA.out.row⟩
 clear an s HA;obtain⟨j,t,hj,rfl,s,V⟩:=hrel;by_cases Y:j<(f.os.z i).ls.n;rotate_left
 .have a8:j=(f.os.z i).ls.n:=by omega
  subst a8;have S:Hid (Io p f b q (i+1) t):=V.out.next;go_wp2_with fail;go_roundw
  case rel=>exact⟨i+1,t,by omega,by go_num,s,S⟩
  case measure=>simp[intOf];omega
 have q2:(0:Int)<=(j:Int):=by omega
 have q3:(j:Int)<((f.os.z i).ls.n:Int):=by omega
 have lk:=Sz (o:=i) (l:=j) s.out.cut.map (by omega) (by omega);unfold ou at lk;obtain⟨u,-,-,-,-,-,-,-,-,-,u9⟩:=s.out.cut.boxed;have ac:Hid (Pos p b (λi j=>q i j) f i j t):=V.out.pos HQ.out H (Nat.le_of_lt Y);have L:Hid (km p b t i j (q i j)):=ac.out.stepIn HQ.out H Y;have al:=L.out.n0;by_cases hq:0<q i j;rotate_left
 .have S:Hid (ux p f b q i (j+1) t):=V.out.skip HQ.out H Y (by omega);clear L V ac;obtain⟨M,J⟩:∃M,q i j=M:=⟨_,rfl⟩;rw[J] at lk hq al;clear J;go_wp2_with fail;go_roundw
  case rel=>exact⟨j+1,t,by omega,by go_num,s,S⟩
  case measure=>simp[intOf];omega
 have am:Hid ((t.os.z i).k=1):=by
  rcases L.out.kd with e|e
  .omega
  exact e.1
 have P:Hid (fc p t i j (q i j) b=0):=by have I:=L.out.allocIn am.out;exact I.less ⟨I.n0,Int.le_refl _⟩
 have ad:Hid (∀x,l6 p b t i j (q i j) x->ux p f b q i (j+1) x):=λx T=>V.out.step T;clear L am V ac;obtain⟨M,J⟩:∃M,q i j=M:=⟨_,rfl⟩;rw[J] at lk P ad hq al;clear J;go_wp2_with fail;clear lk u u9;obtain⟨pm,p0,p1,p2,p3,p4,p5,p6,p7,-,-⟩:=s.out.cut.boxed;have d0:wr.cell? ⟨K,0,none⟩=some (.slice p.ab p.nb p.cb):=s.out.plan.k 0;have d1:wr.cell? ⟨K,1,none⟩=some (.slice p.sa p.ns p.cs):=s.out.plan.k 1;have l1:=s.out.plan.lt;have bj:=Qqq p0;have bq:=Qqq p1;have bc:=Qqq p2;have be:=Qqq p3;have a5:=Qqq p4;have bd:=Qqq p5;have bp:=Qqq p6;have bm:=Qqq p7;have bh:=Qqq d0;have bf:=Qqq d1;refine jh [(false,[0,2,3,4,6,7,8,9,10,11],none),(true,[1,5,12],some 13),(false,[14,15,16,17,18,19],some 20)] ?_;refine⟨λ_=>True,trivial,λ_ _=>trivial,?_⟩;simp only[du,Qyq,Xqq,Qyx,Qyz,Xqz,Xqx]
 repeat(go_big_quiet_step(fail))
 refine Qqz ?_;refine⟨λw'=>∃p:Regrown,w'=grow (redrawn wr p.d) p.os,Qqx (brf.drew),λh=>(by cases h),?_⟩;simp only[du,Qyq,Xqq,Qyx,Qyz,Xqz,Xqx]
 repeat(go_big_quiet_step(fail))
 refine Qqz ?_;clear bj bq bc be a5 bd bp bm bh bf p0 p1 p2 p3 p4 p5 p6 p7 d0 d1 l1 pm;have aq:Below wr.heap.size wr wr.drew:=brf.drew
 generalize wr.drew=wj at *
 have F:Hid (Fo p f A D r v b g q K t wj):=s.out.below aq;have ar:Hid (p.At wj):=HP.out wj F.out.cut.bel;clear aq s;refine li 13 rfl ?_;go_wp2_with fail;refine(Lz p t i j M b wj ar.out F.out.cut.own.at).mono ?_;rintro e w8 ⟨x,rfl,a2,ap,X,au⟩;have HT:Hid (ux p f b q i (j+1) x):=ad.out x (ap.1 P.out);have bi:Hid (ai A w8 x):=(X P.out).mono F.out.cut.le;have B:Hid (Fo p f A D r v b g q K t w8):=F.out.below au;clear a2 ap X au ad F ar P
 generalize Ct p t i j M b=LL at *
 generalize fc p t i j M b=EE at *
 simp only[St.val];go_wp2_with fail;refine⟨λ_=>True,trivial,λ_ _=>trivial,?_⟩;simp only[du,Qyq,Xqq,Qyx,Qyz,Xqz,Xqx]
 repeat(go_big_quiet_step(fail))
 refine Qqz ?_;have m:=B.out.cut.box;have zl:=m.lt;have b8:=m.frozen 0;have cf:=m.k 0;have ca:=m.frozen 1;have zc1:=m.k 1;have cg:=m.frozen 2;have zc2:=m.k 2;have ch:=m.frozen 3;have zc3:=m.k 3;have ce:=m.frozen 4;have zc4:=m.k 4;have b6:=m.frozen 5;have zc5:=m.k 5;have b7:=m.frozen 6;have cc:=m.k 6;clear m;refine li 20 rfl ?_;go_wp2_with fail;have S:Hid (Fo p f A D r v b g q K x (set7 w8 D (.slice x.on.a x.on.n x.on.c) (.slice x.os.a x.os.n x.os.c) (.slice x.hs.a x.hs.n x.hs.c) (.slice x.ms.a x.ms.n x.ms.c) (.slice x.si.a x.si.n x.si.c) (.slice x.so.a x.so.n x.so.c) (.slice x.sf.a x.sf.n x.sf.c))):=⟨ai.cut7 B.out.cut B.out.own0,B.out.cut.newState bi.out,B.out.plan.cut7 (Blk.ne2 B.out.plan B.out.cut.box (by decide)) _ _ _ _ _ _ _⟩;unfold set7 at S;refine NoPanic.normal ?_;go_wp2_with fail;go_roundw
 case rel=>exact⟨j+1,x,by omega,by go_num,S,HT⟩
 case measure=>simp[intOf];omega
theorem Jb{bin good seen:Int}(h:¬lv p s bin good=0):fo p s bin good seen=lv p s bin good:=by
 unfold lv at h ⊢;unfold fo;by_cases a:ag p s=0
 .rw[if_pos a] at h ⊢;rw[if_pos a];cases b:(inB bin 0 ((p.nb:Int)-1)&&inB good 0 ((p.ns:Int)-1))
  .rfl
  rw[b] at h;exact absurd rfl h
 rw[if_neg a,if_neg a]
theorem aaz{bin good:Int}(h:lv p s bin good=0):ag p s=0/\∃b g:Nat,bin=b/\good=g/\b<p.nb/\g<p.ns:=by
 unfold lv at h;by_cases c:ag p s=0
 .rw[if_pos c] at h;cases a:(inB bin 0 ((p.nb:Int)-1)&&inB good 0 ((p.ns:Int)-1))
  .rw[a] at h;exact absurd h (by decide)
  simp only[Xxx] at a;have e:=au a.1;have d:=au a.2;exact⟨c,bin.toNat,good.toNat,by omega,by omega,by omega,by omega⟩
 rw[if_neg c] at h;exact absurd h c
theorem R9{seen:Int}(h:ag p s=0)(a:inB seen 0 200=false):fo p s b g seen=3:=by
 unfold fo;rw[if_pos h,a,Bool.and_false]
 rfl
theorem Ky{seen:Int}(h:ag p s=0)(i:b<p.nb)(f:g<p.ns)(d:inB seen 0 200=true)(a:inB (s.sf.z g+(seen-(s.on.r b).z g)) (-1048576) 1048576=false):fo p s b g seen=2:=by
 unfold fo;have e:(Int.toNat (b:Int))=b:=rfl;have c:(Int.toNat (g:Int))=g:=rfl;rw[if_pos h,bw (by omega),bw (by omega),d,e,c,a]
 rfl
theorem Nb{seen:Int}(h:ag p s=0)(e:b<p.nb)(c:g<p.ns)(a:inB seen 0 200=true)(d:inB (s.sf.z g+(seen-(s.on.r b).z g)) (-1048576) 1048576=true):dg p s b g seen :=
 ⟨dp h,e,c,(au a).1,(au a).2,au d⟩
theorem ai.setFix{G:Nat}(h:ai A w s)(b:s.sf.a=some ⟨G,0,none⟩)(g:Nat)(x:Int):ai A (w.setCell ⟨G,g,none⟩ (.int .i64 x)) (Go.Proofs.YtbcacebifpagpagGreat.setFix s g x):=by
 obtain⟨q,b1,b2,b3,b4,b5⟩:=h.sf;rw[b] at b1;simp only[Qkx,Qkz,and_true] at b1;subst b1;refine⟨?_,λi hi=>(h.rows i hi).apart (λe=>(h.ari i hi).2.2 (e.trans b.symm)) _ _,h.rapart,h.os.other b5 (by decide) (by decide) _ _,h.hs.other b5 (by decide) _ _,h.ms.other b5 (by decide) _ _,h.msr.set _ _ _,h.si.apart (λe=>h.aif (e.trans b.symm)) _ _,h.so.apart (λe=>h.aof (e.trans b.symm)) _ _,h.sf.set b _ _,h.aio,h.aif,h.aof,h.ari⟩;obtain⟨d,j,a1,f,k,c⟩:=h.on;exact⟨d,j,a1,f,k,c.other (a:=⟨G,g,none⟩) (Blk.ne2 c b5 (by decide)) _⟩
theorem dg.formed0{seen:Int}(h:dg p s b g seen):cx p (ju s b g seen):=by
 have f:=h.r.fm;have G:=h.right.fm;exact⟨G.sh,G.sh0,f.os4,f.ms8,f.lns,f.kind,f.line,f.hold,f.home,f.move,G.sin,G.son,G.sfn,G.sib,G.sob,G.sfb⟩
theorem dg.formed1{seen:Int}(h:dg p s b g seen):cx p (ju (withMoves s (cq (ct b g) s.ms (ey s b g seen))) b g seen):=by
 have f:=h.r.fm;have G:=h.right.fm;exact⟨G.sh,G.sh0,f.os4,G.ms8,f.lns,f.kind,f.line,f.hold,f.home,G.move,G.sin,G.son,G.sfn,G.sib,G.sob,G.sfb⟩
theorem dg.qmax{seen:Int}(h:dg p s b g seen)(o l:Int):ew s b g (ey s b g seen) o l<=100000:=by
 have k:=(Br (b:=b) (g:=g) h.r h.miss0 o l).2;have d:=tm (z:=s.hs.z) o l s.hs.n λq a=>(cz (cd h.r.fm.hold q a)).2.2.2;have c:=h.r.fm.hs72;omega
theorem dg.cutted{a:St}{seen v:Int}(h:dg p s b g seen)(e:af a (ju s b g seen))(f:max 0 v=uu (ct b g) (ey s b g seen) (qh a)):
  let x3:=withMoves a (cq (ct b g) a.ms (ey s b g seen))
  let Q:=lr (ce x3 b g) (max 0 v) (mq x3)
  af (withHolds (np x3 Q) (cq (ce x3 b g) x3.hs (max 0 v))) (pi s b g seen)/\(∀o l,Q o l=ew s b g (ey s b g seen) o l)/\cx p x3:=by
 have c:=Pz h.formed0 e b g (ey s b g seen);refine⟨?_,λo l => ?_,?_⟩
 .have d:withHolds (np (withMoves a (cq (ct b g) a.ms (ey s b g seen))) (lr (ce a b g) (max 0 v) (mq a))) (cq (ce a b g) a.hs (max 0 v))=je a b g (ey s b g seen):=by
   rw[f]
   rfl
  exact d▸c.1
 .have d:lr (ce a b g) (max 0 v) (mq a) o l=ew a b g (ey s b g seen) o l:=by
   rw[f]
   rfl
  exact d.trans (c.2 o l)
 refine af.formed ?_ h.formed1;have k:cy (cq (ct b g) a.ms (ey s b g seen)).z (cq (ct b g) a.ms (ey s b g seen)).n=cy (cq (ct b g) s.ms (ey s b g seen)).z (cq (ct b g) s.ms (ey s b g seen)).n:=by
  rw[lw,lw,Jy (h:=a.ms) (k:=s.ms) e.ms.1 e.ms.2]
 exact⟨e.on,e.os,e.hs,Ag k,e.si,e.so,e.sf⟩
theorem Xz(p:Pl)(s:St)(bin good seen:Int)(w:World)(hp:p.At w)(hs:s.At w):
  Calls prog 48 #[p.val,s.val,.int .i64 bin,.int .i64 good,.int .i64 seen] w λe H=>∃x:St,e = .returned (.tuple #[x.val,.int .i64 (fo p s bin good seen)])/\x.At H/\ij (fo p s bin good seen) (ni p s bin.toNat good.toNat seen) x/\(fo p s bin good seen=0->ai w.heap.size H x)/\Below w.heap.size w H:=by
 obtain⟨K,hW,ds,X0,Z0⟩:=Cd w p s;have HC:=Bb hp hs ds X0 Z0;have HW:=hid hW;have leb:=hp.leb;have cc:=hp.capb;have les:=hp.les;have cd:=hp.caps;have capb:=cc;have caps:=cd;have fb:=Z0.lt;unfold maxLen at capb caps;have ed:Hid ((s.on.n<=s.on.c/\s.on.c<=maxLen)/\s.sf.n<=s.sf.c/\s.sf.c<=maxLen):=⟨⟨hs.on.le,hs.on.cap⟩,hs.sf.le,hs.sf.cap⟩;clear hW X0 Z0 hp hs;unfold Pl.val St.val;go_enter func48,ntmps48;go_wp2_with fail;rw[HW.out];obtain⟨X,A,q,D,J⟩:=HC.out K brf;refine(Im p s bin good K A q).mono ?_;rintro e F ⟨rfl,hB⟩;clear X A q D J HW;obtain⟨⟨⟨l1,d0,d1⟩,l2,c0,c1,c2,c3,c4,c5,c6⟩,A,q,D,J⟩:=HC.out F hB;by_cases h0:lv p s bin good=0;rotate_left
 .have HX:Hid (fo p s bin good seen=lv p s bin good):=Jb h0;have dt:Hid (¬fo p s bin good seen=0):=by show ¬_;rw[Jb h0];exact h0
  have g0:(lv p s bin good !=0)=true:=by simpa using h0
  clear h0
  generalize tg p s bin good=Q at *
  generalize lv p s bin good=AE at *
  clear A q;obtain⟨zl,bh,bq,bk,zc1,br,zc2,b9,zc3,bo,zc4,bc,zc5,bd,bm⟩:=z7 J;go_wp2_with fail;exact ip results48 J D (by omega) HX.out (λh=>dt.out (HX.out.trans h)) rfl rfl rfl
 obtain⟨be,b,g,rfl,rfl,hb,hg⟩:=aaz h0;have H0:=hid be;have HR:Hid (ar p s):=dp be;have cx:Hid (tg p s b g=aw s b g):=by show tg p s b g=_;unfold tg;rw[if_pos h0];rfl
 rw[cx.out,h0];clear h0 be;have son:=HR.out.fm.sh.n;have bv:b<s.on.n:=by omega
 have dm:Hid ((s.on.r b).n=p.ns):=HR.out.fm.sh.len b bv;cases h2:inB seen 0 200
 .have HX:Hid (fo p s b g seen=3):=R9 H0.out h2
  generalize aw s b g=Q at *
  clear A q;obtain⟨zl,bh,bq,bk,zc1,br,zc2,b9,zc3,bo,zc4,bc,zc5,bd,bm⟩:=z7 J;go_wp2_with(go_at_call 63;refine ah (co _ _ _ _) ?_);exact ip results48 J D (by omega) HX.out (by decide) rfl rfl rfl
 have sb:=au h2;obtain⟨⟨ft,eo⟩,fv,dz⟩:=ed.out;unfold maxLen at eo dz;obtain⟨bb,ob,b3,ex,e0,Y⟩:=q.on.rows b bv;have dv:g<(s.on.r b).n:=by rw[dm.out];exact hg
 obtain⟨bg,og,cm,dw,e1⟩:=Y.ints g dv;have rl:=Y.le;have rc:=Y.cap;unfold maxLen at rc;have sfn:g<s.sf.n:=by rw[HR.out.fm.sfn];exact hg
 obtain⟨bf,of,b6,d3,e2⟩:=q.sf.ints g sfn;have cv:=hid b3;have c8:=hid b6;rw[b3] at c0;rw[cm] at e0;rw[b6] at c6;have q0:(0:Int)<=(b:Int):=by omega
 have q1:(b:Int)<(s.on.n:Int):=by omega
 have q2:(0:Int)<=(g:Int):=by omega
 have q3:(g:Int)<((s.on.r b).n:Int):=by omega
 have q4:(g:Int)<(s.sf.n:Int):=by omega
 have eb:=HR.out.fm.sh.num b bv g hg;have sfb:=HR.out.fm.sfb g hg;have H2:=hid h2;clear b3 cm b6 Y son;cases h3:inB (s.sf.z g+(seen-(s.on.r b).z g)) (-1048576) 1048576
 .have HX:Hid (fo p s b g seen=2):=Ky H0.out hb hg H2.out h3
  generalize (s.on.r b).z g=m at *
  generalize s.sf.z g=L at *
  generalize aw s b g=Q at *
  clear A q;obtain⟨zl,bh,bq,bk,zc1,br,zc2,b9,zc3,bo,zc4,bc,zc5,bd,bm⟩:=z7 J;go_wp2_with(go_at_call 63;refine ah (co _ _ _ _) ?_);exact ip results48 J D (by omega) HX.out (by decide) rfl rfl rfl
 have E:Hid (dg p s b g seen):=Nb H0.out hb hg H2.out h3;have HX:Hid (fo p s b g seen=0):=Px E.out;have ci:Hid (Calls prog 90 #[s.val] F λe H=>∃s':St,e = .returned s'.val/\af s' s/\ai F.heap.size H s'/\Below F.heap.size F H):=ov p s F q HR.out.fm;obtain⟨m,a2⟩:∃m,(s.on.r b).z g=m:=⟨_,rfl⟩;obtain⟨L,bu⟩:∃L,s.sf.z g=L:=⟨_,rfl⟩;obtain⟨Q,a1⟩:∃Q,aw s b g=Q:=⟨_,rfl⟩;have HV:=qa3 a2 bu a1;have fr:0<=Q/\Q<=m:=by
  have a:=(ld (HR.out.goods g hg)).2 b hb;have c:=E.out.bound;rw[a1] at a c;rw[a2] at c;omega
 rw[a2] at e1 eb h3;rw[bu] at e2 sfb h3;rw[a1];clear A q D J a2 bu a1 cx;go_wp2_with(go_at_call 63;refine ah (co _ _ _ _) ?_);rw[<-cv.out,<-c8.out];refine Calls.mono ci.out ?_;rintro e d ⟨o,rfl,aq,b1,b8⟩;clear ci l1 d0 d1 l2 c0 c1 c2 c3 c4 c5 c6 ex e0 dw e1 d3 e2 h2 h3 cv c8;have A1:K.heap.size<=F.heap.size:=hB.size;have A2:F.heap.size<=d.heap.size:=b8.size;have de:Hid (w.heap.size<=K.heap.size):=(HC.out _ brf).2.2.2.1.size;obtain⟨W5,cw,ap,K5,M5⟩:∃W,(d.alloc (.map #[] 0)).alloc (.cells #[.slice o.on.a o.on.n o.on.c,.slice o.os.a o.os.n o.os.c,.slice o.hs.a o.hs.n o.hs.c,.slice o.ms.a o.ms.n o.ms.c,.slice o.si.a o.si.n o.si.c,.slice o.so.a o.so.n o.so.c,.slice o.sf.a o.sf.n o.sf.c,.int .i64 (b:Int),.int .i64 (g:Int),.map (some d.heap.size)] 139)=W/\Below d.heap.size d W/\Blk W (d.heap.size+1) 139 10 (adc o b g d.heap.size)/\la W d.heap.size (λ_ _=>0):=
  ⟨_,rfl,(brf.alloc nlr _).alloc (by simp) _,(Blk.mk' (by simp) rfl).congr (λj S=>by match j,S with|0,_=>rfl|1,_=>rfl|2,_=>rfl|3,_=>rfl|4,_=>rfl|5,_=>rfl|6,_=>rfl|7,_=>rfl|8,_=>rfl|9,_=>rfl),(la.new d).below (brf.alloc nlr _)⟩
 have bj:Hid ((d.alloc (.map #[] 0)).alloc (.cells #[.slice o.on.a o.on.n o.on.c,.slice o.os.a o.os.n o.os.c,.slice o.hs.a o.hs.n o.hs.c,.slice o.ms.a o.ms.n o.ms.c,.slice o.si.a o.si.n o.si.c,.slice o.so.a o.so.n o.so.c,.slice o.sf.a o.sf.n o.sf.c,.int .i64 (b:Int),.int .i64 (g:Int),.map (some d.heap.size)] 139)=W5):=cw;have ao:=hB.trans (b8.mono hB.size);have al:=ao.trans (ap.mono ao.size);have f:=qa6 b1 ap K5 M5 al aq;obtain⟨⟨⟨l1,d0,d1⟩,l2,c0,-⟩,A,q,-,-⟩:=HC.out W5 al;have bp:F3 p s.on b g (seen-m)=0:=by
  have hu:vt p s.on b g=0:=by rw[F8 HR.out.fm.sh0,bw (by omega),bw (by omega)];rfl
  have e:=HV.out.1;have hi:inB (seen-m) (-((s.on.r b).z g)) (200-(s.on.r b).z g)=true:=bw (by omega);simp[F3,hu,hi]
 have c7:Hid (Calls prog 91 #[p.val,s.on.val,.int .i64 b,.int .i64 g,.int .i64 (seen-m)] W5 λe H=>∃s':Sh,e = .returned (.tuple #[s'.val,.int .i64 0])/\aaq W5.heap.size H s'/\s'.n=s.on.n/\(∀i,i<s.on.n->(s'.r i).n=(s.on.r i).n/\∀j,j<(s.on.r i).n->(s'.r i).z j=F4 s.on b g (seen-m) i j)/\Below W5.heap.size W5 H):=Mz p s.on b g (seen-m) W5 A q.on bp;rw[<-bj.out] at l1 d0 d1 l2 c0;clear cw ap K5 M5 ao al b1 b8 hB aq A q bp;have ek:∀(t:TypeId) (w:World),(Instr.makeMap t none).run prog w = .ok (.map (some w.heap.size)) (w.alloc (.map #[] 0)):=λ_ _=>rfl;simp only[St.val];go_wp2_with fail;rw[bj.out];clear l1 d0 d1 l2 c0 bj ek;refine Calls.mono c7.out ?_;rintro e w6 ⟨u,rfl,hR,bt,c9,P⟩;clear c7;have T:Hid (af (setFix ⟨u,o.os,o.hs,o.ms,o.si,o.so,o.sf⟩ g (L+(seen-m))) (ju s b g seen)):=by
  have e:=f.out.2.2.2.2.2;refine⟨⟨bt,λi hi => ?_⟩,e.os,e.hs,e.ms,e.si,e.so,⟨e.sf.1,λj S => ?_⟩⟩
  .have er:i<s.on.n:=by rw[<-bt];exact hi
   have k:=c9 i er;refine⟨k.1.trans (s9 s b g seen i).symm,λj S => ?_⟩;have b7:j<(u.r i).n:=S;rw[tv];show(u.r i).z j=_;rw[k.2 j (by rw[<-k.1];exact b7)];show(if i=b/\j=g then(s.on.r i).z j+(seen-m) else(s.on.r i).z j)=_;by_cases c:i=b/\j=g
   .have hv:=HV.out.1;rw[if_pos c,if_pos c,c.1,c.2,hv];omega
   rw[if_neg c,if_neg c]
  have b7:j<o.sf.n:=S;have hv:=HV.out;show(if j=g then L+(seen-m) else o.sf.z j)=if j=g then s.sf.z g+(seen-(s.on.r b).z g) else s.sf.z j;rw[hv.1,hv.2.1,e.sf.2 j b7]
 have ck:Hid (o.sf.z g=L):=(f.out.2.2.2.2.2.sf.2 g (by rw[f.out.2.2.2.2.2.sf.1];exact sfn)).trans HV.out.2.1;have cl:=f.out.2.1.size;have B6:=f.out.2.2.1.below P;have osn:g<o.sf.n:=by rw[f.out.2.2.2.2.2.sf.1];exact sfn
 have O4:=ai.below f.out.1 (f.out.2.1.trans (P.mono f.out.2.1.size));obtain⟨G,ga,gA,gl,eu,gc,ay,da⟩:=O4.sf.cellAt osn;have d9:G<d.heap.size:=by
  obtain⟨G',cr,-,fu,-⟩:=f.out.1.sf.cellAt osn;rw[ga] at cr;simp only[Qkx,Qkz,and_true] at cr;omega
 unfold maxLen at gc;rw[ck.out] at ay;have fs:=hid ga;have ei:¬G=d.heap.size+1:=by omega
 have bi:¬d.heap.size+1=G:=by omega
 have y0:=B6.lt;have y1:=B6.frozen 0;have y2:=B6.k 0;have y3:w6.cell? ⟨d.heap.size+1,6,none⟩=some (.slice (some ⟨G,0,none⟩) o.sf.n o.sf.c):=by have h:=B6.k 6;rw[<-ga];exact h
 have gf:=da g;have q5:(g:Int)<(o.sf.n:Int):=by omega
 have HI:Hid (gw F.heap.size (d.heap.size+1) d.heap.size K (setFix ⟨u,o.os,o.hs,o.ms,o.si,o.so,o.sf⟩ g (L+(seen-m))) b g (λ_ _=>0) ((w6.setCell ⟨d.heap.size+1,0,none⟩ (.slice u.a u.n u.c)).setCell ⟨G,g,none⟩ (.int .i64 (L+(seen-m))))):=by
  have m6:=f.out.2.2.2.1.below P;have bl:=f.out.2.2.2.2.1.trans (P.mono f.out.2.2.2.2.1.size);have o1:=ai.swap f.out.1 (f.out.2.1.trans (P.mono f.out.2.1.size)) hR cl (by omega);have o2:=ai.boxC o1 B6 0 (.slice u.a u.n u.c);have o3:=o2.setFix (G:=G) ga g (L+(seen-m));have k2:=B6.set 0 (.slice u.a u.n u.c);have sz:=P.size;obtain⟨Gq,e3,-,-,-,ef⟩:=o2.sf;have gq:G=Gq:=by have e:o.sf.a=some ⟨Gq,0,none⟩:=e3;rw[ga] at e;simpa using e
  subst gq;have m7:=m6.set (j:=0) (B6.noMap m6) (.slice u.a u.n u.c);refine⟨o3,(k2.other (a:=⟨G,g,none⟩) bi _).congr (λj S=>by match j,S with|0,_=>rfl|1,_=>rfl|2,_=>rfl|3,_=>rfl|4,_=>rfl|5,_=>rfl|6,_=>rfl|7,_=>rfl|8,_=>rfl|9,_=>rfl),m7.set (j:=g) (ef.noMap m7) _,(bl.setCell (p:=⟨d.heap.size+1,0,none⟩) (by show K.heap.size<=d.heap.size+1;omega) _).setCell (p:=⟨G,g,none⟩) (by show K.heap.size<=G;omega) _,by simp;omega,A1,by omega,A2⟩
 have cs:Hid (max 0 (-(seen-m)-Q)=ey s b g seen):=by
  have k:=E.out.bound;have v:=HV.out;rw[v.1,v.2.2] at k;show max 0 (-(seen-m)-Q)=_;unfold ey;omega
 generalize hX2:setFix ⟨u,o.os,o.hs,o.ms,o.si,o.so,o.sf⟩ g (L+(seen-m))=x2 at T HI
 clear hX2 da B6 O4 hR bt c9 P ga gA f ck eu;simp only[Sh.val];go_wp2_with fail;clear y0 y1 y2 y3 gf ay gl d9 ei bi cl;obtain⟨wB,db⟩:∃wB,((w6.setCell ⟨d.heap.size+1,0,none⟩ (.slice u.a u.n u.c)).setCell ⟨G,g,none⟩ (.int .i64 (L+(seen-m))))=wB:=⟨_,rfl⟩;rw[db] at HI ⊢;clear db;have f0:=E.out.formed0;have cj:Hid (Calls prog 107 #[.pointer (some ⟨d.heap.size+1,0,none⟩),.int .i64 (-(seen-m)-Q)] wB λe H=>∃v:Int,e = .returned (.int .i64 v)/\max 0 v=uu (ct b g) (ey s b g seen) (qh x2)/\(-100000<=v/\v<=100000)/\gw F.heap.size (d.heap.size+1) d.heap.size K (withMoves x2 (cq (ct b g) x2.ms (ey s b g seen))) b g (λ_ _=>0) H):=by
  have h:=Sb F.heap.size (d.heap.size+1) d.heap.size K x2 b g (λ_ _=>0) (-(seen-m)-Q) wB HI.out (λj S=>by
   rw[T.out.ms.2 j S];have:=f0.moveN j (by rw[<-T.out.ms.1];exact S);omega) (by rw[T.out.ms.1];exact f0.ms8) (by omega)
  rw[cs.out] at h;exact h
 clear f0 HI;refine Calls.mono cj.out ?_;rintro e w7 ⟨v,rfl,hv,ch,b0⟩;clear cj;have CT:=E.out.cutted T.out hv;obtain⟨dc,cu,bx⟩:=CT;obtain⟨B,az⟩:∃B,withMoves x2 (cq (ct b g) x2.ms (ey s b g seen))=B:=⟨_,rfl⟩;rw[az] at b0 bx;have V:af (withHolds (np B (lr (ce B b g) (max 0 v) (mq B))) (cq (ce B b g) B.hs (max 0 v))) (pi s b g seen):=by rw[<-az];exact dc
 have U:∀o l,lr (ce B b g) (max 0 v) (mq B) o l=ew s b g (ey s b g seen) o l:=by rw[<-az];exact cu
 clear dc cu az hv;have av:=Sa p F.heap.size (d.heap.size+1) d.heap.size K B b g v w7 b0 bx ch (λo l=>by rw[U o l];exact E.out.qmax o l);obtain⟨QQ,cp⟩:∃QQ,lr (ce B b g) (max 0 v) (mq B)=QQ:=⟨_,rfl⟩;rw[cp] at av V U;obtain⟨x4,cz⟩:∃x4,withHolds (np B QQ) (cq (ce B b g) B.hs (max 0 v))=x4:=⟨_,rfl⟩;rw[cz] at av V;have bn:=hid av;have M:=qa2 V U;clear av V U bx cp cz b0 ch T cs;go_wp2_with fail;refine Calls.mono bn.out ?_;rintro e w8 ⟨rfl,ax⟩;clear bn;have eq:=hid ax;obtain⟨⟨⟨l1,d0,d1⟩,-⟩,-⟩:=HC.out w8 ax.bel;have cn:Hid (Calls prog 108 #[.pointer (some ⟨d.heap.size+1,0,none⟩),p.val] w8 λe H=>e = .returned (.tuple #[])/\∃y,iq p b (λi j=>QQ i j) (yd x4) x4 x4.os.n y/\gw F.heap.size (d.heap.size+1) d.heap.size K y b g QQ H):=
  Kq p F.heap.size (d.heap.size+1) d.heap.size K x4 b g QQ w8 ax (λwk hb=>(HC.out wk hb).2.1) (E.out.qin.same M.out.1 λi j _ _=>M.out.2 i j)
 clear ax eq;go_wp2_with fail;clear l1 d0 d1;refine Calls.mono cn.out ?_;rintro e w9 ⟨rfl,y,hT,a0⟩;clear cn;have HY:Hid (af y (ni p s b g seen)):=by
  refine iq.same E.out.qin (λ_ _=>rfl) (Nat.le_refl s.os.n) E.out.all ?_;have n4:x4.os.n=s.os.n:=M.out.1.os.1;rw[n4] at hT;refine iq.base (m':=yd x4) M.out.1 (λ_ _=>rfl) (λi hi => ?_) (λi j _ _=>M.out.2 i j) (Nat.le_refl s.os.n) hT;exact(M.out.1.os.2 i (by rw[n4];exact hi)).2.1
 have ee:=hid a0;obtain⟨pm,p0,p1,p2,p3,p4,p5,p6,-,-,-⟩:=a0.boxed;obtain⟨-,-,-,D,J⟩:=HC.out w9 a0.bel;have HZ:=qa2 D J;obtain⟨zl,bh,bq,bk,zc1,br,zc2,b9,zc3,bo,zc4,bc,zc5,bd,bm⟩:=z7 J;clear D J a0 hT M;go_wp2_with fail;have KZ:=s7b HZ.out.2 y;have cy:=s7w (b:=w.heap.size+2) HZ.out.1 (by omega) y;have b5:=s7o ee.out.own HZ.out.2 y;unfold set7 at KZ cy b5;obtain⟨es,ea,d7,el,dq,ej,et⟩:=df KZ;refine Xzq (v := .tuple #[y.val,.int .i64 0]) (by simp[results,results48,go_sem,St.val,es,ea,d7,el,dq,ej,et]) rfl ?_;exact⟨y,by rw[HX.out];rfl,b5.at,⟨λ_=>HY.out,λh=>absurd HX.out h⟩,λ_=>b5.mono (Qzx de.out A1),cy⟩
theorem aci{x:Ax}(g:p.At w)(hs:s.At w)(hx:x.ls.At w):(x.k=1->Calls prog 41 #[p.val,s.val,.int .i64 x.a,.int .i64 x.b,.int .i64 x.n] w λe d=>∃y:St,e = .returned (.tuple #[y.val,.int .i64 (doE p s x)])/\y.At d/\ij (doE p s x) (doT p s x) y/\(doE p s x=0->ai w.heap.size d y)/\Below w.heap.size w d) /\
  (x.k=2->Calls prog 42 #[p.val,s.val,x.ls.val] w λe d=>∃y:St,e = .returned (.tuple #[y.val,.int .i64 (doE p s x)])/\y.At d/\ij (doE p s x) (doT p s x) y/\(doE p s x=0->ai w.heap.size d y)/\Below w.heap.size w d) /\
  (x.k=3->Calls prog 43 #[p.val,s.val] w λe d=>∃y:St,e = .returned (.tuple #[y.val,.int .i64 (doE p s x)])/\y.At d/\ij (doE p s x) (doT p s x) y/\(doE p s x=0->ai w.heap.size d y)/\Below w.heap.size w d) /\
  (x.k=4->Calls prog 44 #[p.val,s.val,.int .i64 x.a] w λe d=>∃y:St,e = .returned (.tuple #[y.val,.int .i64 (doE p s x)])/\y.At d/\ij (doE p s x) (doT p s x) y/\(doE p s x=0->ai w.heap.size d y)/\Below w.heap.size w d) /\
  (x.k=5->Calls prog 45 #[p.val,s.val,.int .i64 x.a,.int .i64 x.b,.int .i64 x.c,.int .i64 x.n] w λe d=>∃y:St,e = .returned (.tuple #[y.val,.int .i64 (doE p s x)])/\y.At d/\ij (doE p s x) (doT p s x) y/\(doE p s x=0->ai w.heap.size d y)/\Below w.heap.size w d) /\
  (x.k=6->Calls prog 46 #[p.val,s.val] w λe d=>∃y:St,e = .returned (.tuple #[y.val,.int .i64 (doE p s x)])/\y.At d/\ij (doE p s x) (doT p s x) y/\(doE p s x=0->ai w.heap.size d y)/\Below w.heap.size w d) /\
  (x.k=7->Calls prog 47 #[p.val,s.val,.int .i64 x.a,.int .i64 x.n] w λe d=>∃y:St,e = .returned (.tuple #[y.val,.int .i64 (doE p s x)])/\y.At d/\ij (doE p s x) (doT p s x) y/\(doE p s x=0->ai w.heap.size d y)/\Below w.heap.size w d) /\
  (x.k=8->Calls prog 48 #[p.val,s.val,.int .i64 x.a,.int .i64 x.b,.int .i64 x.n] w λe d=>∃y:St,e = .returned (.tuple #[y.val,.int .i64 (doE p s x)])/\y.At d/\ij (doE p s x) (doT p s x) y/\(doE p s x=0->ai w.heap.size d y)/\Below w.heap.size w d):=by
 refine⟨λf => ?_,λf => ?_,λf => ?_,λf => ?_,λf => ?_,λf => ?_,λf => ?_,λf => ?_⟩<;>unfold doE doT<;>rw[f]
 .exact Ox p s x.a x.b x.n w g hs
 .exact Rl p s x.ls w g hs hx
 .exact(Ty p s w g hs).mono λe d ⟨y,h1,h2,h3,h4⟩=>⟨y,h1,h2,h3.act,h4⟩
 .exact Vj p s x.a w g hs
 .exact aar p s x.a x.b x.c x.n w g hs
 .exact aan p s w g hs
 .exact X9 p s x.a x.n w g hs
 exact Xz p s x.a x.b x.n w g hs
theorem Mv(p:Pl)(s:St)(x:Ax)(w:World)(hp:p.At w)(hs:s.At w)(hx:x.ls.At w):
  Calls prog 18 #[p.val,s.val,x.val] w λe Q=>∃y:St,e = .returned (.tuple #[y.val,.int .i64 (doE p s x)])/\y.At Q/\ij (doE p s x) (doT p s x) y/\(doE p s x=0->ai w.heap.size Q y)/\Below w.heap.size w Q:=by
 obtain⟨W0,o,HC,g,M,⟨⟨X,d0,d1⟩,l2,Y,c1,c2,c3,c4,c5,c6⟩,⟨P,x1,x2,x3,x4,x5,x6⟩,zl,l,A,q,zc1,B,zc2,D,zc3,z,zc4,i,zc5,j,t⟩:=Yv p s x w hp hs hx;rw[<-o.out] at X d0 d1 l2 Y c1 c2 c3 c4 c5 c6 P x1 x2 x3 x4 x5 x6 zl l A q zc1 B zc2 D zc3 z zc4 i zc5 j t;clear hp hs hx;by_cases a:x.k=1\/x.k=2\/x.k=3\/x.k=4\/x.k=5\/x.k=6\/x.k=7\/x.k=8;rotate_left
 .simp only[not_or] at a;obtain⟨L,n2,V,U,n5,K,n7,n8⟩:=a;have W:Hid (doE p s x=8):=by
   show(if x.k=1 then _ else _)=_;rw[if_neg L,if_neg n2,if_neg V,if_neg U,if_neg n5,if_neg K,if_neg n7,if_neg n8]
  have n:=(HC.out W0 brf).2.2.2.1;rw[<-o.out] at n;unfold Pl.val St.val Ax.val Ax.cells;go_enter func18,ntmps18
  generalize x.k=f at *
  have g1:(f==1)=false:=by simpa using L
  have g2:(f==2)=false:=by simpa using n2
  have g3:(f==3)=false:=by simpa using V
  have g4:(f==4)=false:=by simpa using U
  have g5:(f==5)=false:=by simpa using n5
  have g6:(f==6)=false:=by simpa using K
  have g7:(f==7)=false:=by simpa using n7
  have g8:(f==8)=false:=by simpa using n8
  clear L n2 V U n5 K n7 n8;go_wp2_with fail;refine Xzq (v := .tuple #[j5.val,.int .i64 8]) (by simp[results,results18,go_sem,j5,St.val]) rfl ?_;exact⟨j5,by rw[W.out];rfl,uo _,⟨λh=>absurd h (by rw[W.out];decide),λ_=>⟨rfl,rfl,rfl,rfl,rfl,rfl,rfl⟩⟩,λh=>absurd h (by rw[W.out];decide),n⟩
 have d:Hid _:=aci (x:=x) g.out.1 g.out.2.1 g.out.2.2;unfold Pl.val St.val Ax.val Ax.cells;go_enter func18,ntmps18;rcases a with a|a|a|a|a|a|a|a
 all_goals
  first
   | have c:Hid _:=d.out.1 a
   | have c:Hid _:=d.out.2.1 a
   | have c:Hid _:=d.out.2.2.1 a
   | have c:Hid _:=d.out.2.2.2.1 a
   | have c:Hid _:=d.out.2.2.2.2.1 a
   | have c:Hid _:=d.out.2.2.2.2.2.1 a
   | have c:Hid _:=d.out.2.2.2.2.2.2.1 a
   | have c:Hid _:=d.out.2.2.2.2.2.2.2 a
  rw[a] at P o ⊢;clear a d;go_wp2_with fail;rw[o.out];clear X d0 d1 l2 Y c1 c2 c3 c4 c5 c6 P x1 x2 x3 x4 x5 x6 zl l A q zc1 B zc2 D zc3 z zc4 i zc5 j t o g;refine Calls.mono c.out ?_;rintro e w1 ⟨y,rfl,J,F,u,hB⟩;have E:=qa3 J F u;obtain⟨-,-,-,aa,S,-,-⟩:=HC.out w1 hB;clear J F u c;obtain⟨T,m⟩:∃T,doE p s x=T:=⟨_,rfl⟩;have ac:=hid m;rw[m];clear m;obtain⟨zl,l,A,q,zc1,B,zc2,D,zc3,z,zc4,i,zc5,j,t⟩:=z7 S;simp only[St.val];go_wp2_with fail;have KZ:=s7b S y;have G:=s7w (b:=w.heap.size+3) aa (by omega) y;have r:=λh=>s7o (E.out.2.2 h) S y;have H:=Ye E.out.2.1 E.out.1 r;unfold set7 at KZ G H r;obtain⟨ar,av,an,al,ad,aj,au⟩:=df KZ;refine Xzq (v := .tuple #[y.val,.int .i64 T]) (by simp[results,results18,go_sem,St.val,ar,av,an,al,ad,aj,au]) rfl ?_;exact⟨y,by rw[ac.out];rfl,H,E.out.2.1,λh=>(r h).mono M.out,G⟩
def Ov(A:Nat)(w w2:World):Prop:=∀g,A<=g->g<w.heap.size->w2.heap[g]?=w.heap[g]?
theorem Blk.high(h:Blk w g e n f)(k:Ov A w a)(b:A<=g):Blk a g e n f:=h.same (k g b h.lt)
theorem j9.high{b:World}{r:Rw}(h:j9 A w r)(k:Ov A w b):j9 A b r:=by
 obtain⟨g,e,a,d,f,c⟩:=h;exact⟨g,e,a,d,f,c.high k a⟩
theorem cw.high{b:World}{s:Hs}(h:cw A e w s)(k:Ov A w b):cw A e b s:=by
 obtain⟨d,l,f,j⟩:=h;refine⟨d,l,f,λm => ?_⟩;obtain⟨g,i,a,c⟩:=j m;exact⟨g,i,a,c.high k a⟩
theorem fu.high{f:World}{size:Nat}{a:Option Addr}(h:fu A w e size a c)(k:Ov A w f):fu A f e size a c:=by
 rcases h with h|⟨g,cur,i,d,b,hs⟩
 .exact Or.inl h
 exact Or.inr ⟨g,cur,i,d,(k g d (Qkq b).1).trans b,hs⟩
theorem kq.high{f:World}{s:Os}(h:kq A w s)(k:Ov A w f):kq A f s:=by
 refine⟨h.le,h.cap,λj => ?_,λi hi => ?_,h.apart,h.room.high k⟩
 .obtain⟨g,a,b,c⟩:=h.list j;exact⟨g,a,b,c.high k b⟩
 obtain⟨C,a,b,c,d,e⟩:=h.lines i hi;exact⟨C,a,b,c,d,e.high k b⟩
theorem ai.high{b:World}(h:ai A w s)(k:Ov A w b):ai A b s:=by
 refine⟨?_,λi hi=>(h.rows i hi).high k,h.rapart,h.os.high k,h.hs.high k,h.ms.high k,h.msr.high k,h.si.high k,h.so.high k,h.sf.high k,h.aio,h.aif,h.aof,h.ari⟩;obtain⟨g,e,a,d,f,c⟩:=h.on;exact⟨g,e,a,d,f,c.high k a⟩
theorem ai.fr(h:ai A w s):Fr A w s:=λ_ _ k=>(h.high k).at
theorem Fr.set7(h:Fr n w s)(a:b<n)(j g d c f e i:Value):Fr n (Go.Proofs.YtbcacebifpagpagGreat.set7 w b j g d c f e i) s :=
 ((((((h.set a 0 j).set a 1 g).set a 2 d).set a 3 c).set a 4 f).set a 5 e).set a 6 i
theorem Fs{t:St}(a:td p s)(b:td p t):af s t:=by
 obtain⟨a1,e,l,h,k,g,f,d⟩:=a;obtain⟨b1,b2,b3,b4,b5,b6,b7,b8⟩:=b;refine⟨⟨by omega,λi hi => ?_⟩,⟨by omega,λi hi=>absurd hi (by omega)⟩,⟨by omega,λj c=>absurd c (by omega)⟩,⟨by omega,λj c=>absurd c (by omega)⟩,⟨by omega,λj c => ?_⟩,⟨by omega,λj c => ?_⟩,⟨by omega,λj c => ?_⟩⟩
 .have x:=e i (by omega);have y:=b2 i (by omega);exact⟨by omega,λj c=>by rw[x.2 j (by omega),y.2 j (by omega)]⟩
 .rw[g.2 j (by omega),b6.2 j (by omega)]
 .rw[f.2 j (by omega),b7.2 j (by omega)]
 rw[d.2 j (by omega),b8.2 j (by omega)]
theorem aai(p:Pl)(w:World)(hp:p.At w):
  Calls prog 22 #[p.val] w λe w'=>∃s:St,e = .returned (.tuple #[s.val,.int .i64 (et p)])/\Fr w.heap.size w' s/\acc p s/\Below w.heap.size w w':=by
 have capb:=hp.capb;have leb:=hp.leb;unfold maxLen at capb;obtain⟨W0,hW,K,X0,Z0⟩:∃W,((w.alloc (.cells #[.slice p.ab p.nb p.cb,.slice p.sa p.ns p.cs] 25)).alloc (.cells #[.slice .none 0 0,.slice .none 0 0,.slice .none 0 0,.slice .none 0 0,.slice .none 0 0,.slice .none 0 0,.slice .none 0 0] 31))=W/\Below w.heap.size w W/\Blk W w.heap.size 25 2 (λj=>(#[.slice p.ab p.nb p.cb,.slice p.sa p.ns p.cs]:Array Value).getD j default)/\Blk W (w.heap.size+1) 31 7 (λ_ => .slice .none 0 0):=
  ⟨_,rfl,ix _ _ _,(Blk.mk' rfl rfl).alloc _,(Blk.mk' (cur:=#[.slice .none 0 0,.slice .none 0 0,.slice .none 0 0,.slice .none 0 0,.slice .none 0 0,.slice .none 0 0,.slice .none 0 0]) (by simp) rfl).congr (λj q=>by match j,q with|0,_=>rfl|1,_=>rfl|2,_=>rfl|3,_=>rfl|4,_=>rfl|5,_=>rfl|6,_=>rfl)⟩
 have HW:Hid ((w.alloc (.cells #[.slice p.ab p.nb p.cb,.slice p.sa p.ns p.cs] 25)).alloc (.cells #[.slice .none 0 0,.slice .none 0 0,.slice .none 0 0,.slice .none 0 0,.slice .none 0 0,.slice .none 0 0,.slice .none 0 0] 31)=W0):=hW;clear hW;unfold Pl.val;go_enter func22,ntmps22;go_wp2_with fail;rw[HW.out];refine(Aa p W0 (hp.below K)).mono ?_;rintro e a ⟨rfl,z⟩;have x:=X0.below z;have Z1:=Z0.below z;have V:=K.trans (z.mono K.size);clear X0 Z0 z;by_cases X:et p=0;rotate_left
 .obtain⟨zl,au,bd,a4,zc1,be,zc2,bg,zc3,a8,zc4,ap,zc5,aq,a5⟩:=z7 Z1;go_wp2_with fail;have U:=n7b Z1;have r:=n7w (b:=w.heap.size+1) V (by omega);unfold set7 at U r;obtain⟨c0,c1,c2,c3,c4,c5,c6⟩:=df U;refine Xzq (v := .tuple #[j5.val,.int .i64 (et p)]) (by simp[results,results22,go_sem,j5,St.val,c0,c1,c2,c3,c4,c5,c6]) rfl ?_;exact⟨j5,rfl,λa9 _ _=>uo _,⟨λh=>absurd h X,λ_=>⟨rfl,rfl,rfl,rfl,rfl,rfl,rfl⟩⟩,r⟩
 have R:=Jz X;have c:=R.ns3;have bi:=R.nb6;have bq:=R.ns1;have H0:=hid X;rw[X];clear X R;obtain⟨i0,hi,a0,a7,ar⟩:=info_parts Za;have d0:a.cell? ⟨w.heap.size,0,none⟩=some (.slice p.ab p.nb p.cb):=x.k 0;have l1:=x.lt;go_wp2_with(at_make;refine wpList_make_full _ rfl _ _ 26 rfl a.heap.size 23 i0 (.slice .none 0 0) 1 underlying26 hi a0 a7 .i64 .i64 _ _ p.nb rfl rfl rfl rfl (by rw[ar];omega) (by unfold maxLen;omega) nlr ?_;intro w2 T y);obtain⟨g,c',hv,_,_,_,u⟩:=Blk.ofOwns T (by simp);simp only[Value.slice.injEq,Qkx,Qkz,and_true] at hv;obtain⟨rfl,-,-⟩:=hv;rw[Nat.mul_one] at u;have ak:Below a.heap.size a w2:=(Below.refl _ a).grown y nlr (by intro k hk;cases hk);clear T y d0;have eg:=enters_of func62 (by kernel_rfl) rfl
 go_loopw [21] (λi wk=>∃k:Nat,k<=p.nb/\i = .int .i64 k/\(∃(G:Nat->Nat),Blk wk a.heap.size 23 p.nb (λi=>if i<k then .slice (some ⟨G i,0,none⟩) p.ns p.ns else .slice none 0 0)/\(∀i,i<k->a.heap.size<G i/\Blk wk (G i) 3 p.ns (λ_ => .int .i64 0)))/\Below a.heap.size a wk) (λi _=>p.nb-(intOf i).toNat)
 case atStart=>exact⟨0,Qxz _,rfl,⟨λ_=>0,u.congr (λj q=>by rw[ad2 q];simp),λi hi=>absurd hi (Qzq _)⟩,ak⟩
 clear u ak;obtain⟨k,hk,rfl,D,F⟩:=hrel;have X2:=x.below F;have hl:=X2.lt;by_cases a3:k<p.nb
 .have HG:Hid (∃(G:Nat->Nat),Blk wr a.heap.size 23 p.nb (λi=>if i<k then .slice (some ⟨G i,0,none⟩) p.ns p.ns else .slice none 0 0)/\(∀i,i<k->a.heap.size<G i/\Blk wr (G i) 3 p.ns (λ_ => .int .i64 0))):=D;clear D;have m1:(0:Int)<=(k:Int):=by omega
  go_wp2_with fail;refine(C7 w.heap.size p wr c hl (X2.k 1)).mono ?_;rintro e d ⟨rfl,al,f⟩;obtain⟨G,gb,l⟩:=HG.out;have bt:=gb.lt;have A:=gb.below f;have bu:=A.frozen k;have ax:=A.cell a3;simp only[Nat.lt_irrefl,if_false] at ax;have o:=F.trans (f.mono F.size);have st:=o.setCell (p:=⟨a.heap.size,k,none⟩) nlr (.slice (some ⟨wr.heap.size,0,none⟩) p.ns p.ns);have KB:=A.set k (.slice (some ⟨wr.heap.size,0,none⟩) p.ns p.ns);have KO:∀i,i<k->Blk (d.setCell ⟨a.heap.size,k,none⟩ (.slice (some ⟨wr.heap.size,0,none⟩) p.ns p.ns)) (G i) 3 p.ns (λ_ => .int .i64 0):=λi hi=>((l i hi).2.below f).other (by have:=(l i hi).1;show _≠a.heap.size;omega) _;have KN:Blk (d.setCell ⟨a.heap.size,k,none⟩ (.slice (some ⟨wr.heap.size,0,none⟩) p.ns p.ns)) wr.heap.size 3 p.ns (λ_ => .int .i64 0):=al.other (by show _≠a.heap.size;omega) _;have HH:Hid _:=And.intro KB (And.intro KO (And.intro KN l));clear KB KO KN gb A l al X2 HG;go_wp2_with fail;go_roundw
  case measure=>simp[intOf];omega
  obtain⟨KB,KO,KN,l⟩:=HH.out;refine⟨k+1,by omega,by go_num,⟨λi=>if i=k then wr.heap.size else G i,KB.congr ?_,?_⟩,st⟩
  .intro j q;by_cases n:j=k
   .subst n;simp
   by_cases h2:j<k
   .simp[n,h2,show j<k+1 by omega]
   simp[n,h2,show ¬j<k+1 by omega]
  intro j q;by_cases n:j=k
  .subst n;simp only[if_true];exact⟨by omega,KN⟩
  simp only[if_neg n];exact⟨(l j (by omega)).1,KO j (by omega)⟩
 have a1:k=p.nb:=by omega
 subst a1;have HG:Hid (∃(G:Nat->Nat),Blk wr a.heap.size 23 p.nb (λi=>if i<p.nb then .slice (some ⟨G i,0,none⟩) p.ns p.ns else .slice none 0 0)/\(∀i,i<p.nb->a.heap.size<G i/\Blk wr (G i) 3 p.ns (λ_ => .int .i64 0))):=D;clear D;go_wp2_with fail;refine(C7 w.heap.size p wr c hl (X2.k 1)).mono ?_;rintro e d ⟨rfl,k3,f⟩;have o:=F.trans (f.mono F.size);go_wp2_with fail;refine(C7 w.heap.size p d c (x.below o).lt ((x.below o).k 1)).mono ?_;rintro e m ⟨rfl,k4,B⟩;have E:=o.trans (B.mono o.size);go_wp2_with fail;refine(C7 w.heap.size p m c (x.below E).lt ((x.below E).k 1)).mono ?_;rintro e w5 ⟨rfl,k5,Q⟩;have aj:=E.trans (Q.mono E.size);have Z5:=Z1.below aj;obtain⟨zl,au,bd,a4,zc1,be,zc2,bg,zc3,a8,zc4,ap,zc5,aq,a5⟩:=z7 Z5;go_wp2_with fail;have U:=nl Z5 (.slice (some ⟨a.heap.size,0,none⟩) p.nb p.nb) (.slice .none 0 0) (.slice .none 0 0) (.slice .none 0 0) (.slice (some ⟨wr.heap.size,0,none⟩) p.ns p.ns) (.slice (some ⟨d.heap.size,0,none⟩) p.ns p.ns) (.slice (some ⟨m.heap.size,0,none⟩) p.ns p.ns);obtain⟨G,gb,l⟩:=HG.out;have L:=B.trans (Q.mono B.size);have M:=f.trans (L.mono f.size);have s1:=Z1.lt;have sr:=F.size;have s3:=f.size;have s4:=B.size;have Y:=mj (b:=w.heap.size+1) (gb.below M) (by omega) (.slice (some ⟨a.heap.size,0,none⟩) p.nb p.nb) (.slice .none 0 0) (.slice .none 0 0) (.slice .none 0 0) (.slice (some ⟨wr.heap.size,0,none⟩) p.ns p.ns) (.slice (some ⟨d.heap.size,0,none⟩) p.ns p.ns) (.slice (some ⟨m.heap.size,0,none⟩) p.ns p.ns);have J:=λi (hi:i<p.nb)=>mj (b:=w.heap.size+1) ((l i hi).2.below M) (by have:=(l i hi).1;omega) (.slice (some ⟨a.heap.size,0,none⟩) p.nb p.nb) (.slice .none 0 0) (.slice .none 0 0) (.slice .none 0 0) (.slice (some ⟨wr.heap.size,0,none⟩) p.ns p.ns) (.slice (some ⟨d.heap.size,0,none⟩) p.ns p.ns) (.slice (some ⟨m.heap.size,0,none⟩) p.ns p.ns);have H:=mj (b:=w.heap.size+1) (k3.below L) (by omega) (.slice (some ⟨a.heap.size,0,none⟩) p.nb p.nb) (.slice .none 0 0) (.slice .none 0 0) (.slice .none 0 0) (.slice (some ⟨wr.heap.size,0,none⟩) p.ns p.ns) (.slice (some ⟨d.heap.size,0,none⟩) p.ns p.ns) (.slice (some ⟨m.heap.size,0,none⟩) p.ns p.ns);have P:=mj (b:=w.heap.size+1) (k4.below Q) (by omega) (.slice (some ⟨a.heap.size,0,none⟩) p.nb p.nb) (.slice .none 0 0) (.slice .none 0 0) (.slice .none 0 0) (.slice (some ⟨wr.heap.size,0,none⟩) p.ns p.ns) (.slice (some ⟨d.heap.size,0,none⟩) p.ns p.ns) (.slice (some ⟨m.heap.size,0,none⟩) p.ns p.ns);have S:=mj (b:=w.heap.size+1) k5 (by omega) (.slice (some ⟨a.heap.size,0,none⟩) p.nb p.nb) (.slice .none 0 0) (.slice .none 0 0) (.slice .none 0 0) (.slice (some ⟨wr.heap.size,0,none⟩) p.ns p.ns) (.slice (some ⟨d.heap.size,0,none⟩) p.ns p.ns) (.slice (some ⟨m.heap.size,0,none⟩) p.ns p.ns);have r:=j7 (b:=w.heap.size+1) (V.trans (aj.mono V.size)) (by omega) (.slice (some ⟨a.heap.size,0,none⟩) p.nb p.nb) (.slice .none 0 0) (.slice .none 0 0) (.slice .none 0 0) (.slice (some ⟨wr.heap.size,0,none⟩) p.ns p.ns) (.slice (some ⟨d.heap.size,0,none⟩) p.ns p.ns) (.slice (some ⟨m.heap.size,0,none⟩) p.ns p.ns);unfold set7 at U Y J H P S r
 generalize (((((((w5.setCell { block:=w.heap.size+1,off:=0 } (Value.slice (some { block:=a.heap.size,off:=0 }) p.nb p.nb)).setCell { block:=w.heap.size+1,off:=1 } (Value.slice none 0 0)).setCell { block:=w.heap.size+1,off:=2 } (Value.slice none 0 0)).setCell { block:=w.heap.size+1,off:=3 } (Value.slice none 0 0)).setCell { block:=w.heap.size+1,off:=4 } (Value.slice (some { block:=wr.heap.size,off:=0 }) p.ns p.ns)).setCell { block:=w.heap.size+1,off:=5 } (Value.slice (some { block:=d.heap.size,off:=0 }) p.ns p.ns)).setCell { block:=w.heap.size+1,off:=6 } (Value.slice (some { block:=m.heap.size,off:=0 }) p.ns p.ns))=WZ at *
 obtain⟨c0,c1,c2,c3,c4,c5,c6⟩:=df U;refine Xzq (v := .tuple #[(⟨⟨some ⟨a.heap.size,0,none⟩,p.nb,p.nb,λi=>⟨some ⟨G i,0,none⟩,p.ns,p.ns,λ_=>0⟩⟩,⟨none,0,0,λ_=>⟨0,⟨none,0,0,λ_=>⟨0,0,0,0⟩⟩⟩⟩,⟨none,0,0,λ_=>⟨0,0,0,0⟩⟩,⟨none,0,0,λ_=>⟨0,0,0,0⟩⟩,⟨some ⟨wr.heap.size,0,none⟩,p.ns,p.ns,λ_=>0⟩,⟨some ⟨d.heap.size,0,none⟩,p.ns,p.ns,λ_=>0⟩,⟨some ⟨m.heap.size,0,none⟩,p.ns,p.ns,λ_=>0⟩⟩:St).val,.int .i64 0]) (by simp[results,results22,go_sem,St.val,c0,c1,c2,c3,c4,c5,c6]) rfl ?_;refine⟨_,by rw[H0.out],λa9 hz hs=>⟨⟨Nat.le_refl _,by show p.nb<=maxLen;unfold maxLen;omega,λi hi => ?_⟩,⟨Nat.le_refl _,Qxz _,λi hi=>absurd hi (Qzq _)⟩,Hs.none _,Hs.none _,C1 (H.same (hs _ (by omega) H.lt)) c,C1 (P.same (hs _ (by omega) P.lt)) c,C1 (S.same (hs _ (by omega) S.lt)) c⟩,⟨λ_=>⟨rfl,λi hi=>⟨rfl,λj q=>rfl⟩,rfl,rfl,rfl,⟨rfl,λj q=>rfl⟩,⟨rfl,λj q=>rfl⟩,⟨rfl,λj q=>rfl⟩⟩,λh=>absurd H0.out h⟩,r⟩;have t:i<p.nb:=hi;have aa:=Y.same (hs _ (by omega) Y.lt);refine⟨a.heap.size,0,rfl,aa.lt,?_,C1 ((J i t).same (hs _ (by have:=(l i t).1;omega) (J i t).lt)) c⟩;have:=aa.cell t;rw[if_pos t] at this;rw[Nat.zero_add];exact this
def pu(p:Pl)(t:List UInt8):Int:=if et p=0 then tt t else et p
def zq(p:Pl)(t:List UInt8):Nat:=if pu p t=0 then(nf t).length else 0
def Es(p:Pl)(t:List UInt8)(y:St):Prop:=(pu p t=0->∃s0,td p s0/\af y (jb p s0 (nf t)))/\(¬pu p t=0->Er y)
theorem Me{d:St}{x c:Ax}(r:ar p s)(e:af y s)(a:ru x c)(h:ij (doE p y x) (doT p y x) d):(doE p y x=0->af d (ut p s c))/\(¬doE p y x=0->af y (ut p s c)):=by
 have k:=Nd r e a;unfold ut at k;refine⟨λb => ?_,λb => ?_⟩
 .rw[if_pos b] at k;exact(h.1 b).trans k
 rw[if_neg b] at k;exact k
theorem Mm{l:List Ax}(h:j<l.length):jb p s (l.take (j+1))=ut p (jb p s (l.take j)) l[j]:=by
 rw[List.take_add_one,List.getElem?_eq_getElem h];exact Yw p s (l.take j) [l[j]]
theorem As.At.six{s:As}(h:s.At w)(hi:i<s.n):∃b o,s.a=some ⟨b,o,none⟩/\w.cell? ⟨b,o+i*6,none⟩=some (.int .i64 (s.z i).k)/\w.cell? ⟨b,o+i*6+1,none⟩=some (.int .i64 (s.z i).a)/\w.cell? ⟨b,o+i*6+2,none⟩=some (.int .i64 (s.z i).b)/\w.cell? ⟨b,o+i*6+3,none⟩=some (.int .i64 (s.z i).c)/\w.cell? ⟨b,o+i*6+4,none⟩=some (.int .i64 (s.z i).n)/\w.cell? ⟨b,o+i*6+5,none⟩=some (.slice (s.z i).ls.a (s.z i).ls.n (s.z i).ls.c):=by
 obtain⟨b,o,d,hc⟩:=h.cells i hi;exact⟨b,o,d,hc 0 (by decide),hc 1 (by decide),hc 2 (by decide),hc 3 (by decide),hc 4 (by decide),hc 5 (by decide)⟩
theorem Ds(h:w.cell? ⟨b,o,none⟩=some v):b<w.heap.size:=by
 unfold World.cell? at h
 split at h
 .rename_i a;exact(Qkq a).1
 cases h
theorem Bt.set7(h:Bt R a w)(i f c b e d g:Value):Bt R a (Go.Proofs.YtbcacebifpagpagGreat.set7 w R i f c b e d g):=
 ((((((h.set (p:=⟨R,0,none⟩) (Or.inl rfl) i).set (p:=⟨R,1,none⟩) (Or.inl rfl) f).set (p:=⟨R,2,none⟩) (Or.inl rfl) c).set (p:=⟨R,3,none⟩) (Or.inl rfl) b).set (p:=⟨R,4,none⟩) (Or.inl rfl) e).set (p:=⟨R,5,none⟩) (Or.inl rfl) d).set (p:=⟨R,6,none⟩) (Or.inl rfl) g
theorem Fr.less{m:Nat}(h:Fr m w s)(e:n<=m):Fr n w s:=λa f d=>h a f λg b c=>d g (Qzx e b) c
theorem M1(p:Pl)(t:List UInt8)(w:World)(hp:p.At w):
  Calls prog 8 #[p.val,.string ⟨t.toArray⟩] w λe w'=>∃y:St,e = .returned (.tuple #[y.val,.int .i64 (zq p t:Int),.int .i64 (pu p t)])/\Fr w.heap.size w' y/\Es p t y/\Below w.heap.size w w':=by
 obtain⟨H,hW,Y,X0,Z0,b2⟩:∃W,(w.alloc (.cells #[.slice p.ab p.nb p.cb,.slice p.sa p.ns p.cs] 25)).alloc (.cells #[.slice .none 0 0,.slice .none 0 0,.slice .none 0 0,.slice .none 0 0,.slice .none 0 0,.slice .none 0 0,.slice .none 0 0] 31)=W/\Below w.heap.size w W/\Blk W w.heap.size 25 2 (λj=>(#[.slice p.ab p.nb p.cb,.slice p.sa p.ns p.cs]:Array Value).getD j default)/\Blk W (w.heap.size+1) 31 7 (λ_ => .slice .none 0 0)/\W.heap.size=w.heap.size+2 :=
  ⟨_,rfl,ix _ _ _,(Blk.mk' rfl rfl).alloc _,(Blk.mk' (cur:=#[.slice .none 0 0,.slice .none 0 0,.slice .none 0 0,.slice .none 0 0,.slice .none 0 0,.slice .none 0 0,.slice .none 0 0]) (by simp) rfl).congr (λj hj=>by match j,hj with|0,_=>rfl|1,_=>rfl|2,_=>rfl|3,_=>rfl|4,_=>rfl|5,_=>rfl|6,_=>rfl),by simp⟩
 have HC:Hid (∀g,Below H.heap.size H g->Blk g w.heap.size 25 2 (λj=>(#[.slice p.ab p.nb p.cb,.slice p.sa p.ns p.cs]:Array Value).getD j default)/\Blk g (w.heap.size+1) 31 7 (λ_ => .slice .none 0 0)/\p.At g/\Below w.heap.size w g):=λg h=>⟨X0.below h,Z0.below h,(hp.below Y).below h,Y.trans (h.mono Y.size)⟩;have HW:Hid ((w.alloc (.cells #[.slice p.ab p.nb p.cb,.slice p.sa p.ns p.cs] 25)).alloc (.cells #[.slice .none 0 0,.slice .none 0 0,.slice .none 0 0,.slice .none 0 0,.slice .none 0 0,.slice .none 0 0,.slice .none 0 0] 31)=H):=hW;have cf:=hid b2;have bx:Hid (∀(E:Int) (g:World),Below H.heap.size H g->pu p t=E->¬E=0->∃y:St,Ending.returned (.tuple #[j5.val,.int .i64 0,.int .i64 E]) = .returned (.tuple #[y.val,.int .i64 (zq p t:Int),.int .i64 (pu p t)])/\Fr w.heap.size (set7 g (w.heap.size+1) (.slice .none 0 0) (.slice .none 0 0) (.slice .none 0 0) (.slice .none 0 0) (.slice .none 0 0) (.slice .none 0 0) (.slice .none 0 0)) y/\Es p t y/\Below w.heap.size w (set7 g (w.heap.size+1) (.slice .none 0 0) (.slice .none 0 0) (.slice .none 0 0) (.slice .none 0 0) (.slice .none 0 0) (.slice .none 0 0) (.slice .none 0 0))):=λE g h J V=>by
  refine⟨j5,?_,λ_ _ _=>uo _,⟨λh=>absurd (J.symm.trans h) V,λ_=>⟨rfl,rfl,rfl,rfl,rfl,rfl,rfl⟩⟩,j7 (HC.out g h).2.2.2 (by omega) _ _ _ _ _ _ _⟩;have hN:zq p t=0:=if_neg (by rw[J];exact V);rw[hN,J]
  rfl
 have b8:=hid (hp.below Y);clear hW Y X0 Z0 hp b2;unfold Pl.val;go_enter func8,ntmps8;go_wp2_with fail;rw[HW.out];refine(aai p H b8.out).mono ?_;rintro e w1 ⟨s,rfl,b6,b9,hB⟩;obtain⟨W2,bu,a6,KS⟩:=ab7 w1 s;have az:=hid bu;have ax:=hid (hB.trans (a6.mono hB.size));have bv:Hid (Fr H.heap.size W2 s):=b6.below a6;have cp:=hid b9;have cc:=hid KS;have bw:=qa2 hB.size KS.lt;clear bu a6 KS b6 b9 HW b8;obtain⟨-,f,-,-⟩:=HC.out w1 hB;obtain⟨zl,o,B,q,zc1,D,zc2,G,zc3,A,zc4,l,zc5,m,r⟩:=z7 f;clear hB f;simp only[St.val];by_cases V:et p=0;rotate_left
 .have g0:(et p !=0)=true:=by simpa using V
  obtain⟨-,f,-,-⟩:=HC.out W2 ax.out;clear zl o B q zc1 D zc2 G zc3 A zc4 l zc5 m r;obtain⟨zl,o,B,q,zc1,D,zc2,G,zc3,A,zc4,l,zc5,m,r⟩:=z7 f;rw[<-az.out] at zl o B q zc1 D zc2 G zc3 A zc4 l zc5 m r;have aw:Hid (_):=bx.out (et p) W2 ax.out (by unfold pu;rw[if_neg V]) V;have P:Hid (Blk (set7 W2 (w.heap.size+1) (.slice .none 0 0) (.slice .none 0 0) (.slice .none 0 0) (.slice .none 0 0) (.slice .none 0 0) (.slice .none 0 0) (.slice .none 0 0)) (w.heap.size+1) 31 7 (λj=>(#[.slice .none 0 0,.slice .none 0 0,.slice .none 0 0,.slice .none 0 0,.slice .none 0 0,.slice .none 0 0,.slice .none 0 0]:Array Value).getD j default)):=n7b f
  generalize et p=EE at *
  clear f;rw[<-az.out] at P aw;go_wp2_with fail;have KZ:=P.out;have U:=aw.out;unfold set7 at KZ U;obtain⟨al,ad,aa,ai,X,ah,am⟩:=df KZ;refine Xzq (v := .tuple #[j5.val,.int .i64 0,.int .i64 EE]) (by simp[results,results8,go_sem,j5,St.val,al,ad,aa,ai,X,ah,am]) rfl ?_;exact U
 have au:=hid V;rw[V];clear V zl o B q zc1 D zc2 G zc3 A zc4 l zc5 m r;go_wp2_with fail;rw[az.out];refine(M2 t W2).mono ?_;rintro e w3 ⟨d,rfl,an,aq,Q,ae⟩;have L:=qa3 an aq Q;have ay:=hid (ax.out.trans (ae.mono ax.out.size));have b3:Hid (Fr H.heap.size w3 s):=bv.out.below ae;have b7:=hid (cc.out.below ae);have dq:=hid ae.size;clear an aq ae bv cc az;have dr:=Q.le;have ck:=Q.cap;have dn:d.n<=60:=by rw[L.out.1];exact Tc t
 clear Q;unfold maxLen at ck;obtain⟨-,f,-,-⟩:=HC.out w3 ay.out;simp only[As.val];by_cases hr:tt t=0;rotate_left
 .have gr:(tt t !=0)=true:=by simpa using hr
  obtain⟨zl,o,B,q,zc1,D,zc2,G,zc3,A,zc4,l,zc5,m,r⟩:=z7 f;have aw:Hid (_):=bx.out (tt t) w3 ay.out (by unfold pu;rw[if_pos au.out]) hr;have P:Hid (Blk (set7 w3 (w.heap.size+1) (.slice .none 0 0) (.slice .none 0 0) (.slice .none 0 0) (.slice .none 0 0) (.slice .none 0 0) (.slice .none 0 0) (.slice .none 0 0)) (w.heap.size+1) 31 7 (λj=>(#[.slice .none 0 0,.slice .none 0 0,.slice .none 0 0,.slice .none 0 0,.slice .none 0 0,.slice .none 0 0,.slice .none 0 0]:Array Value).getD j default)):=n7b f
  generalize tt t=EE at *
  clear f;go_wp2_with fail;have KZ:=P.out;have U:=aw.out;unfold set7 at KZ U;obtain⟨al,ad,aa,ai,X,ah,am⟩:=df KZ;refine Xzq (v := .tuple #[j5.val,.int .i64 0,.int .i64 EE]) (by simp[results,results8,go_sem,j5,St.val,al,ad,aa,ai,X,ah,am]) rfl ?_;exact U
 have c9:=hid hr;rw[hr];clear hr f;have a3:Hid (pu p t=0/\zq p t=(nf t).length):=by
  have e1:pu p t=0:=by unfold pu;rw[if_pos au.out];exact c9.out
  exact⟨e1,if_pos e1⟩
 have b4:Hid (td p s):=cp.out.1 au.out;have ct:Hid (∀j,ar p (jb p s ((nf t).take j))):=λj=>wn _ (dp (qd au.out b4.out));go_wp2_with fail
 generalize hSe:w1.heap.size=S at *
 clear hSe
 go_loopw [36] (λjv g=>∃(j:Nat) (y:St) (n:Nat),j<=d.n/\jv = .int .i64 j/\Hid (Blk g S 31 7 (λj=>y.cells.getD j default)/\Fr n g y/\H.heap.size<=n/\af y (jb p s ((nf t).take j))/\Bt S w3 g)) (λjv _=>d.n-(intOf jv).toNat)
 case atStart=>exact⟨0,s,H.heap.size,Qxz _,rfl,b7.out,b3.out,Nat.le_refl _,af.self _,Bt.refl _ _⟩
 obtain⟨j,y,n,hj,rfl,i⟩:=hrel;clear b7 b3;have bb:Below H.heap.size H wr:=ay.out.trans (i.out.2.2.2.2.below bw.out.1 (by have:=ay.out.size;omega));have c2:=hid bb;obtain⟨hP,f,a8,a2⟩:=HC.out wr bb;clear bb;have d0:wr.cell? ⟨w.heap.size,0,none⟩=some (.slice p.ab p.nb p.cb):=hP.k 0;have d1:wr.cell? ⟨w.heap.size,1,none⟩=some (.slice p.sa p.ns p.cs):=hP.k 1;have dl:=hP.lt;obtain⟨m1,p0,p1,p2,p3,p4,p5,p6⟩:=Boxed.of i.out.1;by_cases K:j<d.n;rotate_left
 .have q1:¬(j:Int)<(d.n:Int):=by omega
  have cx:j=d.n:=by omega
  subst cx;obtain⟨zl,o,B,q,zc1,D,zc2,G,zc3,A,zc4,l,zc5,m,r⟩:=z7 f;have c4:Hid (Fr w.heap.size (set7 wr (w.heap.size+1) (.slice y.on.a y.on.n y.on.c) (.slice y.os.a y.os.n y.os.c) (.slice y.hs.a y.hs.n y.hs.c) (.slice y.ms.a y.ms.n y.ms.c) (.slice y.si.a y.si.n y.si.c) (.slice y.so.a y.so.n y.so.c) (.slice y.sf.a y.sf.n y.sf.c)) y/\Below w.heap.size w (set7 wr (w.heap.size+1) (.slice y.on.a y.on.n y.on.c) (.slice y.os.a y.os.n y.os.c) (.slice y.hs.a y.hs.n y.hs.c) (.slice y.ms.a y.ms.n y.ms.c) (.slice y.si.a y.si.n y.si.c) (.slice y.so.a y.so.n y.so.c) (.slice y.sf.a y.sf.n y.sf.c))):=⟨(i.out.2.1.set7 (by have:=i.out.2.2.1;have:=cf.out;omega) (.slice y.on.a y.on.n y.on.c) (.slice y.os.a y.os.n y.os.c) (.slice y.hs.a y.hs.n y.hs.c) (.slice y.ms.a y.ms.n y.ms.c) (.slice y.si.a y.si.n y.si.c) (.slice y.so.a y.so.n y.so.c) (.slice y.sf.a y.sf.n y.sf.c)).less (by have:=cf.out;have:=i.out.2.2.1;omega),s7w a2 (by omega) y⟩;have P:Hid (Blk (set7 wr (w.heap.size+1) (.slice y.on.a y.on.n y.on.c) (.slice y.os.a y.os.n y.os.c) (.slice y.hs.a y.hs.n y.hs.c) (.slice y.ms.a y.ms.n y.ms.c) (.slice y.si.a y.si.n y.si.c) (.slice y.so.a y.so.n y.so.c) (.slice y.sf.a y.sf.n y.sf.c)) (w.heap.size+1) 31 7 (λj=>(#[.slice y.on.a y.on.n y.on.c,.slice y.os.a y.os.n y.os.c,.slice y.hs.a y.hs.n y.hs.c,.slice y.ms.a y.ms.n y.ms.c,.slice y.si.a y.si.n y.si.c,.slice y.so.a y.so.n y.so.c,.slice y.sf.a y.sf.n y.sf.c]:Array Value).getD j default)):=s7b f y;have bf:Hid (af y (jb p s (nf t))):=by
   have h:=i.out.2.2.2.1;rw[L.out.1,List.take_length] at h;exact h
  clear f hP a8 a2 i;go_wp2_with fail;have KZ:=P.out;have U:=c4.out;unfold set7 at KZ U;obtain⟨al,ad,aa,ai,X,ah,am⟩:=df KZ;refine Xzq (v := .tuple #[y.val,.int .i64 (d.n:Int),.int .i64 0]) (by simp[results,results8,go_sem,St.val,al,ad,aa,ai,X,ah,am]) rfl ?_;exact⟨y,by rw[a3.out.1,a3.out.2,L.out.1],U.1,⟨λ_=>⟨s,b4.out,bf.out⟩,λh=>absurd a3.out.1 h⟩,U.2⟩
 have q0:(0:Int)<=(j:Int):=by omega
 have q1:(j:Int)<(d.n:Int):=by omega
 clear f;have ao:Fl W2.heap.size wr d:=L.out.2.2.bt i.out.2.2.2.2 bw.out.2;obtain⟨xb,xo,cd,x0,x1,x2,x3,x4,x5⟩:=ao.at.six K;have xl:=Ds x0;have b0:Hid ((d.z j).ls.At wr):=(ao.lines j K).at;have cz:Hid (ru (d.z j) ((nf t)[j]'(by rw[<-L.out.1];exact K))):=L.out.2.1 j (by rw[<-L.out.1];exact K);have cv:Hid (jb p s ((nf t).take (j+1))=ut p (jb p s ((nf t).take j)) ((nf t)[j]'(by rw[<-L.out.1];exact K))):=Mm (by rw[<-L.out.1];exact K)
 generalize hxe:d.z j=x at *
 generalize ((nf t)[j]'(by rw[<-L.out.1];exact K))=x' at *
 obtain⟨M,ca,F⟩:∃W,wr.alloc (.cells #[.int .i64 x.k,.int .i64 x.a,.int .i64 x.b,.int .i64 x.c,.int .i64 x.n,.slice x.ls.a x.ls.n x.ls.c] 47)=W/\Below wr.heap.size wr W:=⟨_,rfl,brf.alloc nlr _⟩;have b5:Hid (wr.alloc (.cells #[.int .i64 x.k,.int .i64 x.a,.int .i64 x.b,.int .i64 x.c,.int .i64 x.n,.slice x.ls.a x.ls.n x.ls.c] 47)=M):=ca;have av:=qa3 (a8.below F) (i.out.2.1.at.below F) (b0.out.below F);have ac:Hid (Blk M S 31 7 (λj=>y.cells.getD j default)/\Fr n M y/\Bt S w3 M/\H.heap.size<=M.heap.size/\S<M.heap.size):=⟨i.out.1.below F,i.out.2.1.below F,i.out.2.2.2.2.trans (Bt.of F nlr),Qzx c2.out.size F.size,Xzx i.out.1.lt F.size⟩;have bz:=qa2 i.out.2.2.1 i.out.2.2.2.1;rw[cd];clear ao cd hxe ca F a8 i hP a2 b0;go_wp2_with fail;rw[b5.out];refine(Mv p y x M av.out.1 av.out.2.1 av.out.2.2).mono ?_;rintro e w5 ⟨u,rfl,cm,b1,bc,bh⟩;have HU:Hid ((doE p y x=0->af u (jb p s ((nf t).take (j+1))))/\(¬doE p y x=0->af y (jb p s ((nf t).take (j+1))))):=by
  have:=Me (ct.out j) bz.out.2 cz.out b1;rw[<-cv.out] at this;exact this
 obtain⟨W6,ce,bd,KU⟩:=ab7 w5 u;have ag:=hid ce;have T:=bh.trans (bd.mono bh.size);have ak:Hid (Blk W6 S 31 7 (λj=>y.cells.getD j default)/\Fr n W6 y/\Bt S w3 W6):=⟨ac.out.1.below T,ac.out.2.1.below T,ac.out.2.2.1.trans (Bt.of T nlr)⟩;have a4:Hid (doE p y x=0->Fr M.heap.size W6 u):=λh=>(bc h).fr.below bd;clear m1 p0 p1 p2 p3 p4 p5 p6 d0 d1 dl x0 x1 x2 x3 x4 x5 xl b5 av cm b1 bc bh bd T ce;simp only[St.val];by_cases J:doE p y x=0;rotate_left
 .have bf:Hid (af y (jb p s ((nf t).take (j+1)))):=HU.out.2 J;have gE:(doE p y x==0)=false:=by simpa using J
  clear J KU a4 HU
  generalize doE p y x=EE at *
  go_wp2_with fail;rw[ag.out];clear ag;go_roundw
  case rel=>exact⟨j+1,y,n,by omega,by go_num,ak.out.1,ak.out.2.1,bz.out.1,bf.out,ak.out.2.2⟩
  case measure=>simp[intOf];omega
 have cq:Hid (af u (jb p s ((nf t).take (j+1)))):=HU.out.1 J;have c3:Hid (Fr M.heap.size W6 u):=a4.out J;rw[J];have f:=ak.out.1;obtain⟨zl,o,B,q,zc1,D,zc2,G,zc3,A,zc4,l,zc5,m,r⟩:=z7 f;have a9:Blk W6 w5.heap.size 31 7 (λj=>u.cells.getD j default):=KU;have c1:=a9.k 0;obtain⟨m1,p0,p1,p2,p3,p4,p5,p6⟩:=Boxed.of a9;have HN:=qa3 (s7b f u) (c3.out.set7 ac.out.2.2.2.2 (.slice u.on.a u.on.n u.on.c) (.slice u.os.a u.os.n u.os.c) (.slice u.hs.a u.hs.n u.hs.c) (.slice u.ms.a u.ms.n u.ms.c) (.slice u.si.a u.si.n u.si.c) (.slice u.so.a u.so.n u.so.c) (.slice u.sf.a u.sf.n u.sf.c)) (ak.out.2.2.set7 (.slice u.on.a u.on.n u.on.c) (.slice u.os.a u.os.n u.os.c) (.slice u.hs.a u.hs.n u.hs.c) (.slice u.ms.a u.ms.n u.ms.c) (.slice u.si.a u.si.n u.si.c) (.slice u.so.a u.so.n u.so.c) (.slice u.sf.a u.sf.n u.sf.c));clear J KU a9 c1 f a4 HU;rw[<-ag.out] at zl o B q zc1 D zc2 G zc3 A zc4 l zc5 m r m1 p0 p1 p2 p3 p4 p5 p6;go_wp2_with fail;rw[ag.out];clear ag zl o B q zc1 D zc2 G zc3 A zc4 l zc5 m r m1 p0 p1 p2 p3 p4 p5 p6;have a5:=HN.out;unfold set7 at a5;have bi:Hid (_/\_/\_):=a5;clear HN a5;go_roundw
 case rel=>exact⟨j+1,u,M.heap.size,by omega,by go_num,bi.out.1,bi.out.2.1,ac.out.2.2.2.1,cq.out,bi.out.2.2⟩
 case measure=>simp[intOf];omega
theorem Kt(p:Pl)(t:List UInt8)(w:World)(b:p.At w):
  Calls prog 8 #[p.val,.string ⟨t.toArray⟩] w λe a=>∃y:St,e = .returned (.tuple #[y.val,.int .i64 (zq p t:Int),.int .i64 (pu p t)])/\y.At a/\Es p t y/\Below w.heap.size w a :=
 (M1 p t w b).mono λe a ⟨y,h1,h2,h3⟩=>⟨y,h1,h2.at,h3⟩
theorem aax(z:Int):nu z = .int .u8 ((zt z).toNat:Int):=by rw[M9];rfl
theorem Xy{o:Bool}{zs:List Int}(h:te L A w o (zs.map nu))(z:0<zs.length):∃a c,Blk w A 79 2 (λj=>(#[.slice a zs.length c,.bool o]:Array Value).getD j default)/\∀b,Below w.heap.size w b->(convert 77 9 (.slice a zs.length c)).run prog b = .ok (.string ⟨(zs.map zt).toArray⟩) b:=by
 obtain⟨a,c,i,l⟩:=h;simp only[List.length_map] at i l;have k:(Value.slice a zs.length c) ≠ .slice none 0 0:=λe=>by simp only[Value.slice.injEq] at e;omega
 obtain⟨g,u,d,x,v,y,t⟩:=Blk.ofOwns l k;simp only[Value.slice.injEq,true_and] at d;obtain⟨d,r⟩:=d;subst d r;refine⟨_,c,i,λb q => ?_⟩;have s:=t.below q;have f:(zs.map zt).length=zs.length:=by simp
 have:=run_convert_bytes_back (P:=prog) b 77 9 5 ⟨g,0,none⟩ c (zs.map zt) underlying77 underlying5 underlying9 (λj n=>by
  have m:j<zs.length:=by rw[<-f];exact n
  have p:(⟨g,0,none⟩:Addr).add j=⟨g,j,none⟩:=by
   unfold Addr.add;by_cases h:j=0
   .subst h;rfl
   rw[if_neg h];simp
  rw[p,s.cell (j:=j) (by omega)];simp[List.getD,List.getElem?_eq_getElem m,aax])
 rw[f] at this;exact this
theorem Et(x:Ax)(w:World)(hx:x.ls.At w)(hn:x.ls.n<=8796093022208):
  Calls prog 14 #[x.val] w λe w'=>e = .returned (.tuple #[.string ⟨(wm x).toArray⟩,.int .i64 (mm x)])/\Below w.heap.size w w':=by
 obtain⟨g,hW,f,KA,H,m⟩:∃W,((w.alloc (.cells x.cells 47)).alloc (.cells #[.slice none 0 0,.bool false] 79)).alloc (.cells #[.int .i64 x.k,.int .i64 x.a,.int .i64 x.b,.int .i64 x.c,.int .i64 x.n,.int .i64 (x.ls.n:Int)] 3)=W/\Blk W w.heap.size 47 6 (λj=>x.cells.getD j default) /\
   te (w.heap.size+1) (w.heap.size+1) W false []/\Blk W (w.heap.size+1+1) 3 6 (λj => .int .i64 ((vm x).getD j 0))/\Below w.heap.size w W :=
  ⟨_,rfl,((Blk.mk' (cur:=x.cells) rfl rfl).alloc _).alloc _,⟨none,0,((Blk.mk' (cur:=#[.slice none 0 0,.bool false]) (by simp) rfl).alloc _).congr (λj y=>by match j,y with|0,_=>rfl|1,_=>rfl),World.ownsRow_nil _ _ _ _⟩,
   (Blk.mk' (cur:=#[.int .i64 x.k,.int .i64 x.a,.int .i64 x.b,.int .i64 x.c,.int .i64 x.n,.int .i64 (x.ls.n:Int)]) (by simp) rfl).congr (λj y=>by match j,y with|0,_|1,_|2,_|3,_|4,_|5,_=>rfl),((brf.alloc nlr _).alloc (by simp) _).alloc (by simp;omega) _⟩
 have HW:Hid (((w.alloc (.cells #[.int .i64 x.k,.int .i64 x.a,.int .i64 x.b,.int .i64 x.c,.int .i64 x.n,.slice x.ls.a x.ls.n x.ls.c] 47)).alloc (.cells #[.slice none 0 0,.bool false] 79)).alloc (.cells #[.int .i64 x.k,.int .i64 x.a,.int .i64 x.b,.int .i64 x.c,.int .i64 x.n,.int .i64 (x.ls.n:Int)] 3)=g):=hW;have A:Hid (te (w.heap.size+1) (w.heap.size+1) g false []/\Blk g (w.heap.size+1+1) 3 6 (λj => .int .i64 ((vm x).getD j 0))/\Below w.heap.size w g):=⟨KA,H,m⟩;have ag:w.heap.size+1<=g.heap.size:=by rw[<-hW];simp
 have HC:Hid (∀q,Below (w.heap.size+1) g q->Blk q w.heap.size 47 6 (λj=>x.cells.getD j default)/\x.ls.At q/\Below w.heap.size w q):=λq h=>⟨f.same (h.block _ (by omega)),hx.below (m.trans (h.mono (by omega))),m.trans (h.mono (by omega))⟩;have HN:Hid (x.ls.n<=8796093022208):=hn;have a7:=hx.le;have ac:=hx.cap;unfold maxLen at ac;clear hW f KA H m hx ag;unfold Ax.val Ax.cells;go_enter func14,ntmps14;go_wp2_with fail;rw[HW.out];refine(Va (w.heap.size+1) (w.heap.size+1) false [] (w.heap.size+1+1) (vm x) g nlr A.out.1 A.out.2.1 (by show 0+6<=_;omega)).mono ?_;rintro e K ⟨rfl,S,U⟩;have E:Hid (te (w.heap.size+1) (w.heap.size+1) K ((vm x++ro x.ls.z 0).any o7) ((vm x++ro x.ls.z 0).map nu)/\Below (w.heap.size+1) g K):=⟨by simpa[ro] using S,U⟩;clear S U A HW;obtain⟨f,-,-⟩:=HC.out K E.out.2;have c5:K.cell? ⟨w.heap.size,5,none⟩=some (.slice x.ls.a x.ls.n x.ls.c):=f.k 5;have cl:=f.lt;clear f;go_wp2_with fail;clear c5 cl
 go_loopw [25] (λY q=>∃j:Nat,j<=x.ls.n/\Y = .int .i64 j/\Hid (te (w.heap.size+1) (w.heap.size+1) q ((vm x++ro x.ls.z j).any o7) ((vm x++ro x.ls.z j).map nu)/\Below (w.heap.size+1) g q)) (λY _=>x.ls.n-(intOf Y).toNat)
 case atStart=>exact⟨0,Qxz _,rfl,E⟩
 obtain⟨j,y,rfl,i⟩:=hrel;clear E;obtain⟨f,D,-⟩:=HC.out wr i.out.2;have cl:=f.lt;by_cases ai:j<x.ls.n
 .have q0:(0:Int)<=(j:Int):=by omega
  have q1:(j:Int)<(x.ls.n:Int):=by omega
  obtain⟨lb,lo,B,ah,z0,z1,z2,z3⟩:=D.hds j ai;have am:Hid (w.heap.size+1<=wr.heap.size):=by
   obtain⟨a,c,d,-⟩:=i.out.1;exact Nat.le_of_lt d.lt
  generalize hZ:x.ls.z j=Z at *
  have HZ:Hid (x.ls.z j=Z):=hZ;obtain⟨G,M,H,m⟩:∃W,(wr.alloc (.cells #[.int .i64 Z.o,.int .i64 Z.l,.int .i64 Z.b,.int .i64 Z.n] 59)).alloc (.cells #[.int .i64 Z.o,.int .i64 Z.l,.int .i64 Z.b,.int .i64 Z.n] 3)=W/\Blk W (wr.heap.size+1) 3 4 (λj => .int .i64 ((hdN Z).getD j 0))/\Below wr.heap.size wr W :=
   ⟨_,rfl,(Blk.mk' (cur:=#[.int .i64 Z.o,.int .i64 Z.l,.int .i64 Z.b,.int .i64 Z.n]) (by simp) rfl).congr (λj y=>by match j,y with|0,_|1,_|2,_|3,_=>rfl),(brf.alloc nlr _).alloc (by simp) _⟩
  have Q:Hid ((wr.alloc (.cells #[.int .i64 Z.o,.int .i64 Z.l,.int .i64 Z.b,.int .i64 Z.n] 59)).alloc (.cells #[.int .i64 Z.o,.int .i64 Z.l,.int .i64 Z.b,.int .i64 Z.n] 3)=G):=M;have u:Hid (Blk G (wr.heap.size+1) 3 4 (λj => .int .i64 ((hdN Z).getD j 0))/\te (w.heap.size+1) (w.heap.size+1) G ((vm x++ro x.ls.z j).any o7) ((vm x++ro x.ls.z j).map nu)/\Below (w.heap.size+1) g G):=by
   refine⟨H,?_,i.out.2.trans (m.mono am.out)⟩;obtain⟨a,c,d,hO⟩:=i.out.1;exact⟨a,c,d.below m,j6 hO m⟩
  have a6:Hid (x.ls.a=some ⟨lb,lo,none⟩):=B;rw[B];clear B f D hZ M H m i;go_wp2_with fail;rw[Q.out];refine(Va (w.heap.size+1) (w.heap.size+1) _ _ (wr.heap.size+1) (hdN Z) G nlr u.out.2.1 u.out.1 (by
   have:=HN.out;rw[List.length_map,List.length_append,yx];show 6+4*j+4<=_;omega)).mono ?_
  rintro e w3 ⟨rfl,X,T⟩;have ak:Hid (te (w.heap.size+1) (w.heap.size+1) w3 ((vm x++ro x.ls.z (j+1)).any o7) ((vm x++ro x.ls.z (j+1)).map nu)/\Below (w.heap.size+1) g w3):=by
   refine⟨?_,u.out.2.2.trans T⟩;rw[ro,HZ.out,<-List.append_assoc,List.any_append (ys:=hdN Z),List.map_append (l₂:=hdN Z)];exact X
  clear X T u Q z0 z1 z2 z3 ah;go_wp2_with fail;go_roundw
  case rel=>exact⟨j+1,by omega,by go_num,ak⟩
  case measure=>simp[intOf];omega
 have q1:¬(j:Int)<(x.ls.n:Int):=by omega
 have af:j=x.ls.n:=by omega
 subst af;have t:Hid (te (w.heap.size+1) (w.heap.size+1) wr ((xf x).any o7) ((xf x).map nu)):=i.out.1;have J:Hid (Below w.heap.size w wr):=(HC.out wr i.out.2).2.2;have c5:wr.cell? ⟨w.heap.size,5,none⟩=some (.slice x.ls.a x.ls.n x.ls.c):=f.k 5;obtain⟨a,c,d,p⟩:=Xy t.out (by rw[L3];omega);have P:=p wr brf;have s:Hid (mm x=if (xf x).any o7 then 3 else if 3<x.ls.n then 2 else 0):=rfl;have an:Hid (mm x=0->wm x=(xf x).map zt):=λh=>if_pos h;have V:Hid (mm x≠0->wm x=[]):=λh=>if_neg h
 generalize (xf x).length=AL at *
 generalize (xf x).map zt=BB at *
 cases F:(xf x).any o7;rotate_left
 .rw[F] at d s;have a1:wr.cell? ⟨w.heap.size+1,1,none⟩=some (.bool true):=d.k 1;have al:=d.lt;have r:Hid (mm x=3):=by show _=_;rw[s.out,if_pos rfl]
  clear f D i t d P p F;go_wp2_with fail;refine Xzq (v := .tuple #[.string ⟨#[]⟩,.int .i64 3]) (by simp[results,results14,go_sem]) rfl ?_;exact⟨by rw[V.out (by rw[r.out];decide),r.out],J.out⟩
 rw[F] at d s;have a0:wr.cell? ⟨w.heap.size+1,0,none⟩=some (.slice a AL c):=d.k 0;have a1:wr.cell? ⟨w.heap.size+1,1,none⟩=some (.bool false):=d.k 1;have al:=d.lt;by_cases L:3<x.ls.n
 .have q3:(3:Int)<(x.ls.n:Int):=by omega
  have r:Hid (mm x=2):=by show _=_;rw[s.out,if_neg (by decide),if_pos L]
  clear f D i t d P p F L;go_wp2_with fail;refine Xzq (v := .tuple #[.string ⟨#[]⟩,.int .i64 2]) (by simp[results,results14,go_sem]) rfl ?_;exact⟨by rw[V.out (by rw[r.out];decide),r.out],J.out⟩
 have q3:¬(3:Int)<(x.ls.n:Int):=by omega
 have r:Hid (mm x=0):=by show _=_;rw[s.out,if_neg (by decide),if_neg L]
 clear f D i t d p F L;go_wp2_with fail;refine Xzq (v := .tuple #[.string ⟨BB.toArray⟩,.int .i64 0]) (by simp[results,results14,go_sem]) rfl ?_;exact⟨by rw[an.out r.out,r.out],J.out⟩
def lx1:Ax:=⟨1,1,0,0,5,⟨none,0,0,λ_=>⟨0,0,0,0⟩⟩⟩
def lx2(B:Nat):Ax:=⟨2,0,0,0,0,⟨some ⟨B,0,none⟩,1,1,λ_=>⟨1,9,0,0⟩⟩⟩
def lx3:Ax:=⟨0,0,0,0,256,⟨none,0,0,λ_=>⟨0,0,0,0⟩⟩⟩
def lx0:Ax:=⟨0,0,0,0,0,⟨none,0,0,λ_=>⟨0,0,0,0⟩⟩⟩
def lt1:List UInt8:=[1,1,0,0,5,0]
def lt2:List UInt8:=[2,0,0,0,0,1,1,9,0,0]
def Hn:List UInt8:=[1,1,0,0,5,0,2,0,0,0,0,1,1,9,0,0]
def lt3:List UInt8:=[1,1,0,0,5,0,2,0,0,0,0,1,1,9,0,0,1]
theorem lw1:wm lx1=lt1/\mm lx1=0:=⟨by kernel_rfl,by kernel_rfl⟩
theorem lw2(B:Nat):wm (lx2 B)=lt2/\mm (lx2 B)=0:=⟨by kernel_rfl,by kernel_rfl⟩
theorem lw3:mm lx3=3:=by kernel_rfl
theorem lr3:C4 lt3=16/\tt lt3=0/\(nf lt3).length=2:=⟨by kernel_rfl,by kernel_rfl,by kernel_rfl⟩
theorem aa9(b a:Nat):pu (qz b a) Hn=0/\zq (qz b a) Hn=2:=⟨by kernel_rfl,by kernel_rfl⟩
def ab1:St:=⟨⟨none,3,3,λ_=>⟨none,2,2,λ_=>0⟩⟩,⟨none,0,0,λ_=>⟨0,⟨none,0,0,λ_=>⟨0,0,0,0⟩⟩⟩⟩,⟨none,0,0,λ_=>⟨0,0,0,0⟩⟩,⟨none,0,0,λ_=>⟨0,0,0,0⟩⟩,⟨none,2,2,λ_=>0⟩,⟨none,2,2,λ_=>0⟩,⟨none,2,2,λ_=>0⟩⟩
theorem R2(b a:Nat):td (qz b a) ab1:=⟨rfl,λ_ _=>⟨rfl,λ_ _=>rfl⟩,rfl,rfl,rfl,⟨rfl,λ_ _=>rfl⟩,⟨rfl,λ_ _=>rfl⟩,⟨rfl,λ_ _=>rfl⟩⟩
def ad1(g1 g2:Nat):St:=jb (qz g1 g2) ab1 (nf Hn)
theorem z5.self:∀l:List Ax,z5 l l
 | []=>trivial
 | x :: l=>⟨ru.self x,z5.self l⟩
theorem aee{a:Nat}(h:Es (qz a b) Hn y):1<y.on.n/\0<(y.on.r 1).n/\(y.on.r 1).z 0=5/\y.os.n=1:=by
 obtain⟨s0,d,hs⟩:=h.1 (aa9 a b).1;have e:af y (ad1 a b):=hs.trans (Az (dp (qd (p:=(qz a b)) (by kernel_rfl) (R2 a b))) (Fs d (R2 a b)) (z5.self _));have a1:1<y.on.n:=by rw[e.on.1];exact of_decide_eq_true (by kernel_rfl)
 have b1:0<(y.on.r 1).n:=by rw[(e.on.2 1 a1).1];exact of_decide_eq_true (by kernel_rfl)
 have c1:(y.on.r 1).z 0=5:=by rw[(e.on.2 1 a1).2 0 b1];kernel_rfl
 have c:y.os.n=1:=by rw[e.os.1];kernel_rfl
 exact⟨a1,b1,c1,c⟩
theorem adi(w:World):(lx2 w.heap.size).ls.At (w.alloc (.cells #[.int .i64 1,.int .i64 9,.int .i64 0,.int .i64 0] 59)):=by
 have K:=Blk.new w #[.int .i64 1,.int .i64 9,.int .i64 0,.int .i64 0] 59;refine⟨Nat.le_refl _,by show 1<=maxLen;unfold maxLen;omega,λi hi => ?_,λh=>by cases h⟩;have a:i=0:=by have b:i<1:=hi;omega
 subst a;exact⟨w.heap.size,0,rfl,K.lt,K.k 0,K.k 1,K.k 2,K.k 3⟩
theorem qs(w:World):Calls prog 12 #[] w λe w'=>e = .returned (.bool true)/\Below w.heap.size w w':=by
 have s1:(⟨lt1.toArray⟩:ByteArray).size=6:=rfl;have s2:(⟨lt2.toArray⟩:ByteArray).size=10:=rfl;have bg:(⟨Hn.toArray⟩:ByteArray).size=16:=rfl;have be:(⟨lt1.toArray⟩:ByteArray)++⟨lt2.toArray⟩=⟨Hn.toArray⟩:=by rw[ByteArray.mk_append_mk];rfl
 have a3:(⟨Hn.toArray⟩:ByteArray)++⟨#[1]⟩=⟨lt3.toArray⟩:=by show(⟨Hn.toArray⟩:ByteArray)++⟨([1]:List UInt8).toArray⟩=_;rw[ByteArray.mk_append_mk];rfl
 have e1:((⟨lt1.toArray⟩:ByteArray).toList==(⟨#[1,1,0,0,5,0]⟩:ByteArray).toList)=true:=by kernel_rfl
 go_enter func12,ntmps12;go_wp2_with fail;refine(Et lx1 w (Hs.none w) (Qxz _)).mono ?_;rintro e u ⟨rfl,b⟩;have f:=hid b;clear b;rw[lw1.1,lw1.2];go_wp2_with fail;refine(Et (lx2 u.heap.size) (u.alloc (.cells #[.int .i64 1,.int .i64 9,.int .i64 0,.int .i64 0] 59)) (adi u) (by show 1<=_;omega)).mono ?_;rintro e w2 ⟨rfl,b⟩;have t:Hid (Below w.heap.size w w2):=f.out.trans ((brf.alloc f.out.size _).trans (b.mono (by simp;have:=f.out.size;omega)));clear b f;rw[(lw2 u.heap.size).1,(lw2 u.heap.size).2];go_wp2_with fail;refine(M2 lt3 w2).mono ?_;rintro e w3 ⟨ae,rfl,an,-,-,b⟩;have x:=hid (t.out.trans (b.mono t.out.size));have bf:(ae.n:Int)=2:=by rw[an,lr3.2.2];rfl
 clear b t an;rw[lr3.1,lr3.2.1];simp only[As.val];go_wp2_with fail;refine(Tt w3).mono ?_;rintro e w4 ⟨K,L,rfl,-,-,E,p,b⟩;have B:=hid (x.out.trans (b.mono x.out.size));have X:Hid ((qz K L).At w4):=aag E p;clear b x E p;go_wp2_with fail;refine(Kt (qz K L) Hn w4 X.out).mono ?_;rintro e M ⟨y,rfl,ac,V,b⟩;have h:=hid (B.out.trans (b.mono B.out.size));have HY:=hid ac;have aa:Hid (1<y.on.n/\0<(y.on.r 1).n/\(y.on.r 1).z 0=5/\y.os.n=1):=aee V;rw[(aa9 K L).1,(aa9 K L).2];clear b B X ac V;simp only[St.val];go_wp2_with fail;obtain⟨W6,ab,G,KY⟩:∃W,M.alloc (.cells #[.slice y.on.a y.on.n y.on.c,.slice y.os.a y.os.n y.os.c,.slice y.hs.a y.hs.n y.hs.c,.slice y.ms.a y.ms.n y.ms.c,.slice y.si.a y.si.n y.si.c,.slice y.so.a y.so.n y.so.c,.slice y.sf.a y.sf.n y.sf.c] 31)=W/\Below M.heap.size M W/\Blk W M.heap.size 31 7 (λj=>y.cells.getD j default):=⟨_,rfl,brf.alloc nlr _,Blk.mk' rfl rfl⟩;rw[ab];have k:=hid (h.out.trans (G.mono h.out.size));have q:=qa2 (HY.out.below G) KY;clear ab G KY h HY;refine(Et lx3 W6 (Hs.none W6) (Qxz _)).mono ?_;rintro e w7 ⟨rfl,b⟩;have H:=hid (k.out.trans (b.mono k.out.size));have s:=qa2 (q.out.1.below b) (q.out.2.below b);clear b k q;rw[lw3];go_wp2_with fail;refine(Tt w7).mono ?_;rintro e w8 ⟨P,J,rfl,-,-,E,p,b⟩;have l:=hid (H.out.trans (b.mono H.out.size));have F:=qa2 (s.out.1.below b) (s.out.2.below b);have ad:Hid ((qz P J).At w8):=aag E p;clear b H s E p;go_wp2_with fail;refine(aaw w8).mono ?_;rintro e Q ⟨g,rfl,-,hb,b⟩;have m:=hid (l.out.trans (b.mono l.out.size));have D:=qa2 (F.out.1.below b) (F.out.2.below b);have A:Hid ((qz P J).At Q/\(G5 g 2 0).At Q):=⟨ad.out.below b,ac9 hb⟩;clear b hb l F ad;go_wp2_with fail;refine(Mv (qz P J) (G5 g 2 0) lx0 Q A.out.1 A.out.2 (Hs.none Q)).mono ?_;rintro e S ⟨v,rfl,-,-,-,b⟩;have o:=hid (m.out.trans (b.mono m.out.size));have i:=qa2 (D.out.1.below b) (D.out.2.below b);clear b m D A;rw[show doE (qz P J) (G5 g 2 0) lx0=8 from rfl];simp only[St.val];obtain⟨Wb,Y,d⟩:∃W,S.alloc (.cells #[.slice v.on.a v.on.n v.on.c,.slice v.os.a v.os.n v.os.c,.slice v.hs.a v.hs.n v.hs.c,.slice v.ms.a v.ms.n v.ms.c,.slice v.si.a v.si.n v.si.c,.slice v.so.a v.so.n v.so.c,.slice v.sf.a v.sf.n v.sf.c] 31)=W/\Below S.heap.size S W:=⟨_,rfl,brf.alloc nlr _⟩;have U:Hid (S.alloc (.cells #[.slice v.on.a v.on.n v.on.c,.slice v.os.a v.os.n v.os.c,.slice v.hs.a v.hs.n v.hs.c,.slice v.ms.a v.ms.n v.ms.c,.slice v.si.a v.si.n v.si.c,.slice v.so.a v.so.n v.so.c,.slice v.sf.a v.sf.n v.sf.c] 31)=Wb):=Y;have ay:=hid (o.out.trans (d.mono o.out.size));obtain⟨m1,p0,p1,p2,p3,p4,p5,p6⟩:=Boxed.of (i.out.2.below d);obtain⟨r1,r2,r3,r4⟩:=aa.out;obtain⟨ob,oo,oa,ol,oc,T⟩:=(i.out.1.below d).on.rows 1 r1;obtain⟨ib,io,ia,il,ic⟩:=T.ints 0 r2;rw[r3,Nat.add_zero] at ic;rw[oa] at p0;rw[ia] at oc;have q1:(1:Int)<(y.on.n:Int):=by omega
 have q2:(0:Int)<((y.on.r 1).n:Int):=by omega
 have q4:(y.os.n:Int)=1:=by omega
 clear r1 r2 r3 r4 aa i o d Y oa ia T;rw[<-U.out] at m1 p0 p1 p2 p3 p4 p5 p6 ol oc il ic;go_wp2_with fail;rw[U.out];go_ret;exact⟨by simp,ay.out⟩
theorem Hs.At.congr{s:Hs}{z':Nat->Hd}(h:s.At w)(d:s.n=n)(b:∀j,j<s.n->s.z j=z' j):Hs.At w ⟨s.a,n,s.c,z'⟩:=by
 subst d;refine⟨h.le,h.cap,λi hi => ?_,h.nilc⟩;have:=h.hds i hi;rw[b i hi] at this;exact this
theorem aae(s:Hs)(h:Hd)(w:World)(hs:s.At w)(i:ax s.n (db s.z)=false)(q:ie h=true):
  Calls prog 119 #[s.val,.int .i64 h.o,.int .i64 h.l,.int .i64 h.b,.int .i64 (keptV s.n s.z h.o h.l h.b+h.n)] w λe A=>∃p:Hs,e = .returned p.val/\cw w.heap.size 61 A p/\p.n=qp s.n s.z h/\p.z=zj s.n s.z h/\Below w.heap.size w A:=by
 obtain⟨J,F,E⟩:=Pg i q;have m:=cz q;by_cases g:keptV s.n s.z h.o h.l h.b=0
 .have no:=U5 i g;have r:∀j,jl s.n s.z h<=j->j<s.n->ba h<ba (s.z j):=λj k d=>by
   have a:=E j k d;have b:¬ba (s.z j)=ba h:=λe=>by
    have:=Jl (cd i j d) q e;rw[no j d] at this;cases this
   omega
  rw[g,Int.zero_add];have x:qp s.n s.z h=s.n+1:=if_pos g;have u:zj s.n s.z h=mn s.z (jl s.n s.z h) h:=if_pos g;rw[x,u];exact aaf s h (jl s.n s.z h) w hs i (N9 q) J (λB=>r _ nlr B) (by omega) F (λj k d=>r j (by omega) d)
 obtain⟨v,y,G,t,D⟩:=tn i g;have f:ba (s.z (jp s.n s.z h.o h.l h.b))=ba h:=Ff (n:=h.n) y;have H:jp s.n s.z h.o h.l h.b=jl s.n s.z h:=by
  rcases Nat.lt_trichotomy (jp s.n s.z h.o h.l h.b) (jl s.n s.z h) with c|c|c
  .have:=F _ c;omega
  .exact c
  have:=t _ c;have:=E _ nlr (by omega);omega
 rw[H] at v y G t D f;have K:=cz (cd i _ v);have x:qp s.n s.z h=s.n:=if_neg g;have u:zj s.n s.z h=sp s.z (jl s.n s.z h) ⟨h.o,h.l,h.b,keptV s.n s.z h.o h.l h.b+h.n⟩:=if_neg g;rw[x,u];exact Qy s ⟨h.o,h.l,h.b,keptV s.n s.z h.o h.l h.b+h.n⟩ (jl s.n s.z h) w hs i ⟨m.1,m.2.1,m.2.2.1⟩ v f (by show ¬keptV s.n s.z h.o h.l h.b+h.n=0;omega) (λj k=>by have:=t j k;rw[f] at this;exact this) (λj k d=>by have:=D j k d;rw[f] at this;exact this)
theorem Sv(s:Hs)(o l b:Int)(w:World)(hs:s.At w):
  Calls prog 118 #[s.val,.int .i64 o,.int .i64 l,.int .i64 b] w λe a=>e = .returned (.int .i64 (keptV s.n s.z o l b))/\Below w.heap.size w a :=
 (Nt s o l b w hs).mono λe a h=>⟨h.1,by rw[h.2];exact Below.refl _ _⟩
def pv(p:Pl)(but:Int)(k:Nat):List Int:=((fq p).take k).filter (λb => !(b==but))
theorem aad{but:Int}{k:Nat}(a:k<(fq p).length):pv p but (k+1)=pv p but k++if (fq p).getD k 0=but then [] else [(fq p).getD k 0]:=by
 unfold pv;rw[List.take_add_one,List.getElem?_eq_getElem a,List.filter_append];have e:(fq p).getD k 0=(fq p)[k]:=by simp[List.getD,List.getElem?_eq_getElem a]
 rw[e]
 congr 1
 by_cases h:(fq p)[k]=but<;>simp[h]
theorem abv(p:Pl)(but:Int):pv p but (fq p).length=fg p but:=by unfold pv fg;rw[List.take_length]
theorem Xu(p:Pl)(but:Int)(k:Nat):(pv p but k).Pairwise (λx y=>¬x=y):=(((Tr p).imp λh=>h.1).sublist (List.take_sublist _ _)).filter _
theorem Tp{but x:Int}{k:Nat}(h:x∈pv p but k):x∈(fq p).take k:=(List.mem_filter.1 h).1
theorem Kn{but x:Int}{k:Nat}(h:x∈pv p but k):0<=x/\x<p.nb:=Gp (List.mem_of_mem_take (Tp h))
theorem abw{but:Int}{k:Nat}(b:k<(fq p).length):(fq p).getD k 0 ∉ pv p but k:=λh=>by
 have c:=Tp h;have e:(fq p).getD k 0=(fq p)[k]:=by simp[List.getD,List.getElem?_eq_getElem b]
 rw[e] at c;obtain⟨j,d,a⟩:=List.mem_iff_getElem.1 c;rw[List.length_take] at d;rw[List.getElem_take] at a;have f:=List.pairwise_iff_getElem.1 (Tr p) j k (by omega) b (by omega);exact f.1 a
def Re(s:St)(o l:Nat)(n:Int)(t:Tk)(F:List Int)(A BX BL g:Nat)(wk:World):Prop :=
 ∃x:St,ep s o l n t x/\ai A wk x/\Blk wk BX 31 7 (λj=>x.cells.getD j default)/\Blk wk g 3 F.length (λj => .int .i64 (F.getD j 0))/\(x.os.z o).ls.a=some ⟨BL,0,none⟩/\Blk wk (BX+1) 31 7 (λ_ => .slice .none 0 0)
def tr(w wk:World):Prop:=∀(q:Nat) (t:TypeId) (m:Nat) (f:Nat->Value),t≠59->Blk w q t m f->Blk wk q t m f
theorem tr.below{b:World}(h:tr w a)(d:Below a.heap.size a b):tr w b:=λq t m f c e=>(h q t m f c e).below d
theorem tr.refl(w:World):tr w w:=λ_ _ _ _ _ h=>h
theorem tr.setNew{b:World}(h:tr w b){B:Nat}(e:w.heap.size<=B)(j:Nat)(u:Value):tr w (b.setCell ⟨B,j,none⟩ u):=λq t m f d c=>(h q t m f d c).other (a:=⟨B,j,none⟩) (by have:=c.lt;show q≠B;omega) u
theorem tr.setLine{b:World}(h:tr w b){B:Nat}{z:Nat->Value}(e:Blk b B 59 n z)(j:Nat)(u:Value):tr w (b.setCell ⟨B,j,none⟩ u):=λq t m f c d=>(h q t m f c d).other (a:=⟨B,j,none⟩) (Blk.ne2 (h q t m f c d) e c) u
def Ka(A:Nat)(x:Hs)(h:Hd)(v:Value)(g:List Nat)(wk:World):Prop:=∃y:Hs,g=[]/\v = .slice y.a y.n y.c/\cw A 61 wk y/\y.n=qp x.n x.z h/\y.z=zj x.n x.z h
theorem Ka.below{x:Hs}{g:List Nat}(k:Ka A x h v g w)(d:Below w.heap.size w a):Ka A x h v g a:=by
 obtain⟨y,f,e,b,c⟩:=k;exact⟨y,f,e,b.below d,c⟩
theorem Ml(p:Pl)(s:St)(o l A:Nat)(n but:Int)(w:World)(hp:p.At w)(hO:ai A w s)(hA:A<=w.heap.size)(hI:i6 p s o l n):
  Calls prog 117 #[p.val,s.val,.int .i64 (o:Int),.int .i64 (l:Int),.int .i64 n,.int .i64 but] w λe L=>∃x:St,e = .returned (.tuple #[x.val,.int .i64 (Tk.go (avT s o l) n (fg p but)).left])/\ep s o l n (Tk.go (avT s o l) n (fg p but)) x/\ai A L x/\Below A w L/\tr w L:=by
 obtain⟨W0,hW,a1,X0,Z0⟩:∃W,(((w.alloc (.cells #[.slice p.ab p.nb p.cb,.slice p.sa p.ns p.cs] 25)).alloc (.cells s.cells 31)).alloc (.cells #[.slice .none 0 0,.slice .none 0 0,.slice .none 0 0,.slice .none 0 0,.slice .none 0 0,.slice .none 0 0,.slice .none 0 0] 31))=W/\Below w.heap.size w W/\Blk W (w.heap.size+1) 31 7 (λj=>s.cells.getD j default)/\Blk W (w.heap.size+1+1) 31 7 (λ_ => .slice .none 0 0):=
  ⟨_,rfl,(ix _ _ _).alloc (by simp;omega) _,(Blk.mk' (by simp) rfl).alloc _,(Blk.mk' (cur:=#[.slice .none 0 0,.slice .none 0 0,.slice .none 0 0,.slice .none 0 0,.slice .none 0 0,.slice .none 0 0,.slice .none 0 0]) (by simp) rfl).congr (λj hj=>by match j,hj with|0,_=>rfl|1,_=>rfl|2,_=>rfl|3,_=>rfl|4,_=>rfl|5,_=>rfl|6,_=>rfl)⟩
 have HW:Hid (((w.alloc (.cells #[.slice p.ab p.nb p.cb,.slice p.sa p.ns p.cs] 25)).alloc (.cells #[.slice s.on.a s.on.n s.on.c,.slice s.os.a s.os.n s.os.c,.slice s.hs.a s.hs.n s.hs.c,.slice s.ms.a s.ms.n s.ms.c,.slice s.si.a s.si.n s.si.c,.slice s.so.a s.so.n s.so.c,.slice s.sf.a s.sf.n s.sf.c] 31)).alloc (.cells #[.slice .none 0 0,.slice .none 0 0,.slice .none 0 0,.slice .none 0 0,.slice .none 0 0,.slice .none 0 0,.slice .none 0 0] 31)=W0):=hW;have X:Hid (i6 p s o l n):=hI;have HP:Hid (p.At W0):=hp.below a1;have leb:=hp.leb;have capb:=hp.capb;have nb1:=hI.fm.sh.pl.nb1;have nb6:=hI.fm.sh.pl.nb6;have ho:=hI.on;have hl:=hI.ln;unfold maxLen at capb;have dk:Hid (ai A W0 s/\Blk W0 (w.heap.size+1) 31 7 (λj=>s.cells.getD j default)/\Blk W0 (w.heap.size+1+1) 31 7 (λ_ => .slice .none 0 0)/\Below A w W0):=⟨ai.below hO a1,X0,Z0,a1.mono hA⟩;clear hW X0 Z0 hp hO hI;unfold Pl.val St.val;go_enter func117,ntmps117;go_wp2_with fail;rw[HW.out];refine(Rt p W0 HP.out nb6).mono ?_;rintro e w1 ⟨v,rfl,bd,an⟩;have fn:Hid ((fq p).length=p.nb):=Vg p;have hv:v ≠ .slice none 0 0:=by
  rintro rfl;rcases bd.2 with⟨_,h0⟩|⟨g2,gw,gu,h,_⟩
  .have:=fn.out;omega
  cases h
 obtain⟨g,c,rfl,hw,fz,hg,hk⟩:=Blk.ofOwns bd hv;have dy:Blk w1 g 3 (fq p).length (λj => .int .i64 ((fq p).getD j 0)):=by
  have h:=hk.less (m:=(fq p).length) (by omega);refine h.congr λj hj => ?_;simp[List.getD,List.getElem?_eq_getElem hj]
 obtain⟨dc,X0,Z0,d2⟩:=dk.out;have a2:=ai.below dc an;have X1:=X0.below an;have Z1:=Z0.below an;have c6:=d2.trans (an.mono (Qzx hA a1.size));obtain⟨gO,E,f1,f2,f3,f4,f5,f6,f7,f8,f9,ce,bq,cl,b9,bn⟩:=a2.lineCell ho hl;have ch:Hid (Re s o l n (Tk.go (avT s o l) n (pv p but 0)) (fq p) A (w.heap.size+1) E g w1):=⟨s,ep.start X.out.fm.hold ⟨⟨rfl,λ_ _=>⟨rfl,λ_ _=>rfl⟩⟩,⟨rfl,λ_ _=>⟨rfl,rfl,λ_ _=>rfl⟩⟩,⟨rfl,λ_ _=>rfl⟩,⟨rfl,λ_ _=>rfl⟩,⟨rfl,λ_ _=>rfl⟩,⟨rfl,λ_ _=>rfl⟩,⟨rfl,λ_ _=>rfl⟩⟩,a2,X1,dy,f5,Z1⟩;have aa:Hid (tr w w1):=((tr.refl w).below a1).below an;have dm:Hid (Below A w w1/\A<=E/\w.heap.size+1<W0.heap.size/\W0.heap.size<=g):=⟨c6,f6,X0.lt,hg⟩;have s1:w1.cell? ⟨w.heap.size+1,1,none⟩=some (.slice s.os.a s.os.n s.os.c):=X1.k 1;have s2:=X1.lt;have v1:=a2.os.le;have v2:=a2.os.cap;rw[f1] at s1;unfold maxLen at v2 f9 fz;have qo:(0:Int)<=(o:Int):=by omega
 have ql:(0:Int)<=(l:Int):=by omega
 have dg:=X.out.good;obtain⟨gd,bw⟩:=Qzz dg.1;have dw:Hid (((s.os.z o).ls.z l).o=(gd:Int)):=bw;have ca:gd<p.ns:=by omega
 rw[bw] at bq;clear bd hv hk dy dc X0 Z0 d2 a2 X1 Z1 c6 f1 f2 f5 f6 ce cl b9 bn dk HW HP an dg bw hg;go_wp2_with fail;clear s1 s2 f3 f4 f7 f8 f9 bq v1 v2
 go_loopw [4,16] (λnv kv F=>∃k:Nat,k<=(fq p).length/\kv = .int .i64 k/\nv = .int .i64 (Tk.go (avT s o l) n (pv p but k)).left/\Hid (Re s o l n (Tk.go (avT s o l) n (pv p but k)) (fq p) A (w.heap.size+1) E g F)/\Hid (Below A w F)/\Hid (tr w F)) (λ_ kv _=>(fq p).length-(intOf kv).toNat)
 case atStart=>exact⟨0,Qxz _,rfl,rfl,ch,dm.out.1,aa⟩
 clear ch aa;obtain⟨k,hk,rfl,rfl,HV,a7,aa⟩:=hrel;have al:Hid (Ar (avT s o l) n (pv p but k) (Tk.go (avT s o l) n (pv p but k))):=X.out.tk (Xu p but k) (λx hx=>Kn hx);have Y:Hid (k<(fq p).length->Tk.go (avT s o l) n (pv p but (k+1))=if (fq p).getD k 0=but then Tk.go (avT s o l) n (pv p but k) else(Tk.go (avT s o l) n (pv p but k)).step (avT s o l) ((fq p).getD k 0)):=λh=>by
  rw[aad h];by_cases hb:(fq p).getD k 0=but
  .rw[if_pos hb,if_pos hb,List.append_nil]
  rw[if_neg hb,if_neg hb,Tk.go_more]
 have ax:Hid (k=(fq p).length->Tk.go (avT s o l) n (pv p but k)=Tk.go (avT s o l) n (fg p but)):=λh=>by rw[h,abv]
 obtain⟨x,hx⟩:=HV.out;have H:Hid (ep s o l n (Tk.go (avT s o l) n (pv p but k)) x/\ai A wr x/\Blk wr (w.heap.size+1) 31 7 (λj=>x.cells.getD j default)/\Blk wr g 3 (fq p).length (λj => .int .i64 ((fq p).getD j 0))/\(x.os.z o).ls.a=some ⟨E,0,none⟩/\Blk wr (w.heap.size+1+1) 31 7 (λ_ => .slice .none 0 0)):=hx;obtain⟨T,dd⟩:∃T,Tk.go (avT s o l) n (pv p but k)=T:=⟨_,rfl⟩;rw[dd] at al Y ax H ⊢;clear hx HV dd;have ge:=al.out.left0;have fc:=al.out.leftn;have h6:=X.out.bk;by_cases a8:k<(fq p).length;rotate_left
 .have ez:k=(fq p).length:=by omega
  have HT:Hid (T=Tk.go (avT s o l) n (fg p but)):=ax.out ez;clear ax Y;have KX:=H.out.2.2.1;obtain⟨m1,p0,p1,p2,p3,p4,p5,p6⟩:=Boxed.of KX;have hz:=H.out.2.2.2.2.2;obtain⟨zl,hh,hr,hm,zc1,ht,zc2,hy,zc3,hq,zc4,hc,zc5,he,hn⟩:=z7 hz;clear KX hz;go_wp2_with fail;have KZ:=s7b H.out.2.2.2.2.2 x;have dv:=s7w (b:=w.heap.size+1+1) a7.out (by omega) x;have d0:=s7o H.out.2.1 H.out.2.2.2.2.2 x;unfold set7 at KZ dv d0;obtain⟨gk,fb,e7,fy,eo,fw,gl⟩:=df KZ;refine Xzq (v := .tuple #[x.val,.int .i64 T.left]) (by simp[results,results117,go_sem,St.val,gk,fb,e7,fy,eo,fw,gl]) rfl ?_;rw[<-HT.out];refine⟨x,rfl,H.out.1,d0,dv,?_⟩;exact((((((aa.out.setNew (by omega) 0 _).setNew (by omega) 1 _).setNew (by omega) 2 _).setNew (by omega) 3 _).setNew (by omega) 4 _).setNew (by omega) 5 _).setNew (by omega) 6 _
 have bj:Hid _:=Y.out a8;obtain⟨ba,be⟩:=Gp (List.mem_iff_getElem.2 ⟨k,a8,rfl⟩:(fq p)[k]∈fq p);have c9:(fq p).getD k 0=(fq p)[k]:=by simp[List.getD,List.getElem?_eq_getElem a8]
 have z0:=H.out.2.2.2.1.cell (j:=k) a8;have z1:=H.out.2.2.2.1.lt;rw[<-c9] at ba be;obtain⟨r,ao⟩:=Qzz ba;have bi:Hid ((fq p).getD k 0=(r:Int)):=ao;rw[ao] at z0 be;have ay:r<p.nb:=by omega
 have bg:=abw (but:=but) a8;rw[ao] at bg;have gm:Hid (cx p x):=X.out.formed (λx hx=>Kn hx) al.out H.out.1;have e3:Hid (aw x r gd=avT s o l r):=by
  have h:=X.out.availAt (λx hx=>Kn hx) al.out H.out.1 ay bg;rw[dw.out] at h;exact h
 have hf : -20000<=avT s o l r/\avT s o l r<=200:=by
  have f:=X.out.fm;have h1:=f.sh.num r (by rw[f.sh.n];exact ay) gd ca;have h2:=nw (s:=s) (b:=r) (g:=gd) f.holdN;have h3:=jx (s:=s) (b:=r) (g:=gd) f.moveN;have h4:=f.hs72;have h5:=f.ms8;unfold avT;rw[dw.out];show -20000<=aw s r gd/\aw s r gd<=200;unfold aw;omega
 have cc:Hid (avT s o l ((fq p).getD k 0)=avT s o l r):=by show avT s o l ((fq p).getD k 0)=_;rw[ao]
 generalize hAVd:avT s o l (r:Int)=AV at *
 clear hAVd bg ba be c9;have q0:(0:Int)<=(k:Int):=by omega
 obtain⟨N,hN⟩:∃N,T.left=N:=⟨_,rfl⟩;have HN:Hid (T.left=N):=hN;rw[hN] at ge fc ⊢;clear hN;have ci:Hid (∀m,min N AV=m->min T.left (avT s o l ((fq p).getD k 0))=m):=λm h=>by rw[cc.out,HN.out];exact h
 rw[ao] at bj;clear ao Y ax;have hu:N<=200:=by
  have:=X.out.sum;have:=(tm (z:=s.hs.z) o l s.hs.n λj hj=>(cz (cd X.out.fm.hold j hj)).2.2.2).1;omega
 by_cases S:(r:Int)=but
 .have e9:((r:Int)==but)=true:=by simpa using S
  have P:Hid (Tk.go (avT s o l) n (pv p but (k+1))=T):=by
   show Tk.go (avT s o l) n (pv p but (k+1))=T;rw[bj.out,if_pos S]
  clear S;go_wp2_with fail;go_roundw
  case rel=>exact⟨k+1,by omega,by go_num,by rw[P.out,HN.out],by rw[P.out];exact⟨x,H.out⟩,a7,aa⟩
  case measure=>simp[intOf];omega
 have e9:((r:Int)==but)=false:=by simpa using S
 have bh:Hid (Tk.go (avT s o l) n (pv p but (k+1))=T.step (avT s o l) (r:Int)):=by
  show Tk.go (avT s o l) n (pv p but (k+1))=_;rw[bj.out,if_neg S]
 clear S bj;have KX:=H.out.2.2.1;obtain⟨m1,p0,p1,p2,p3,p4,p5,p6⟩:=Boxed.of KX;have dz:Hid (Calls prog 120 #[x.val,.int .i64 (r:Int),.int .i64 (gd:Int)] wr λe L=>e = .returned (.int .i64 AV)/\Below wr.heap.size wr L):=by
  have h:=Kr p x r gd wr H.out.2.1.at gm.out ay ca;rw[e3.out] at h;exact h
 clear KX;go_wp2_with fail;refine dz.out.mono ?_;rintro e w9 ⟨rfl,ad⟩;clear m1 p0 p1 p2 p3 p4 p5 p6 dz z0 z1;have ac:Hid (Below A w w9):=a7.out.trans (ad.mono (Qzx hA a7.out.size));have u:Hid (ep s o l n T x/\ai A w9 x/\Blk w9 (w.heap.size+1) 31 7 (λj=>x.cells.getD j default)/\Blk w9 g 3 (fq p).length (λj => .int .i64 ((fq p).getD j 0))/\(x.os.z o).ls.a=some ⟨E,0,none⟩/\Blk w9 (w.heap.size+1+1) 31 7 (λ_ => .slice .none 0 0)):=⟨H.out.1,ai.below H.out.2.1 ad,H.out.2.2.1.below ad,H.out.2.2.2.1.below ad,H.out.2.2.2.2.1,H.out.2.2.2.2.2.below ad⟩;have bc:Hid (tr w w9):=aa.out.below ad;clear H a7 ad aa;by_cases dl:min N AV<=0
 .have fj:min N AV=0:=by
   have:=X.out.av r ay;have e:avT s o l (r:Int)=aw s r ((s.os.z o).ls.z l).o.toNat:=rfl;have:=cc.out;rw[bi.out,e] at this;omega
  have g1:¬0<min N AV:=by omega
  have g2:decide (0<min N AV)=false:=decide_eq_false g1;have P:Hid (Re s o l n (Tk.go (avT s o l) n (pv p but (k+1))) (fq p) A (w.heap.size+1) E g w9/\(Tk.go (avT s o l) n (pv p but (k+1))).left=N):=by
   have e0:min T.left (avT s o l (r:Int))=0:=by have h:=ci.out 0 fj;rw[bi.out] at h;exact h
   refine⟨⟨x,?_,u.out.2⟩,?_⟩
   .rw[bh.out];exact u.out.1.stepZero e0
   rw[bh.out];show T.left-min T.left _=N;rw[e0,HN.out];omega
  clear dl;go_wp2_with fail;go_roundw
  case rel=>exact⟨k+1,by omega,by go_num,by rw[P.out.2],P.out.1,ac,bc⟩
  case measure=>simp[intOf];omega
 obtain⟨t,dh⟩:∃t,min N AV=t:=⟨_,rfl⟩;have c7:Hid (min N AV=t):=dh;have dx:0<t:=by omega
 have eu:t<=N:=by omega
 have g2:decide (0<t)=true:=decide_eq_true dx;have bl:Hid (ie (k9 o l r t)=true/\keptV x.hs.n x.hs.z o l r+t<=200/\addE x.hs.n x.hs.z (k9 o l r t)=0):=X.out.addE (λx hx=>Kn hx) al.out u.out.1 (b:=(r:Int)) ⟨by omega,by omega⟩ dx (by rw[HN.out];exact eu);have fu:=(Ed (λj hj=>(cz (cd u.out.1.right j hj)).2.2.2) (o:Int) (l:Int) (r:Int)).1;have en:=bl.out.2.1;obtain⟨KV,cj⟩:∃KV,keptV x.hs.n x.hs.z o l r=KV:=⟨_,rfl⟩;have d1:Hid (keptV x.hs.n x.hs.z o l r=KV):=cj;rw[cj] at fu en;clear cj;have KX:=u.out.2.2.1;have y2:=Qqq (KX.k 2);have y3:=KX.lt;clear KX dl;go_wp2_with fail;clear dh;refine uj (λL=>∃p:Regrown,L=grow (redrawn w9 p.d) p.os) [0,1,2,3,4,5,6,7,8,9,11] [10,12,13] [(true,14),(true,15)] (Qqx (brf.drew)) ?_;simp only[du,Qyq,Xqq,Qyx,Qyz,Xqz,Xqx]
 repeat(go_big_quiet_step(fail))
 refine Qqz ?_;clear y2;refine⟨λj v g F=>match j with|10=>g=[]/\v = .int .i64 KV|12=>g=[]/\v = .int .i64 (KV+t)|13=>Ka w9.heap.size x.hs (k9 o l r t) v g F|_=>True,
  Qjx ⟨λv g w L hB h=>h,Qjx ⟨λv g w L hB h=>h,Qjx ⟨λv g w L hB h=>Ka.below h hB,Qjq _⟩⟩⟩,
  Qjx ⟨λv g w h=>by rw[h.1];intro x hx;simp at hx,Qjx ⟨λv g w h=>by rw[h.1];intro x hx;simp at hx,Qjx ⟨λv g w h=>by obtain⟨_,h1,_⟩:=h;rw[h1];intro x hx;simp at hx,Qjq _⟩⟩⟩,
  Qjx ⟨?zt3,Qjx ⟨?zt4,Qjx ⟨?zt5,Qjq _⟩⟩⟩,?ztdone⟩
 case zt3 =>
  intro V G F K hS hd hA hK;have D:=ae hS;refine aq 10 rfl ?_;simp only[ap,az,Qvz,Qwq,Qvx,Act.put,Qvq,Qwx,Qwz] at hK ⊢;have et:Hid (Calls prog 118 #[.slice x.hs.a x.hs.n x.hs.c,.int .i64 (o:Int),.int .i64 (l:Int),.int .i64 (r:Int)] F λe L=>e = .returned (.int .i64 KV)/\Below F.heap.size F L):=by
   have h:=Sv x.hs o l r F (u.out.2.1.hs.at.below D);rw[d1.out] at h;exact h
  go_wp2_with fail;refine et.out.mono ?_;rintro e w2 ⟨rfl,a3⟩;go_wp2_with fail;exact hK _ [] _ (Qqx (D.trans (a3.mono D.size))) a3 (λx hx=>by simp at hx) ⟨rfl,rfl⟩
 case zt4 =>
  intro V G F K hS hd hA hK;obtain⟨-,ew⟩:(G 10=[]/\V 10 = .int .i64 KV):=hd 10 (Qjz (by kernel_rfl)) (by simp);refine aq 12 rfl ?_;simp only[ap,az,Qvz,Qwq,Qvx,Act.put,Qvq,Qwx,Qwz,ew] at hK ⊢;go_wp2_with fail;exact hK _ [] _ hS brf (λx hx=>by simp at hx) ⟨rfl,rfl⟩
 case zt5 =>
  intro V G F K hS hd hA hK;have D:=ae hS;have q:=D.size;obtain⟨-,fx⟩:(G 12=[]/\V 12 = .int .i64 (KV+t)):=hd 12 (Qjz (by kernel_rfl)) (by simp);refine aq 13 rfl ?_;simp only[ap,az,Qvz,Qwq,Qvx,Act.put,Qvq,Qwx,Qwz,fx] at hK ⊢;have e8:Hid (Calls prog 119 #[.slice x.hs.a x.hs.n x.hs.c,.int .i64 (o:Int),.int .i64 (l:Int),.int .i64 (r:Int),.int .i64 (KV+t)] F λe L=>∃s':Hs,e = .returned s'.val/\cw F.heap.size 61 L s'/\s'.n=qp x.hs.n x.hs.z (k9 o l r t)/\s'.z=zj x.hs.n x.hs.z (k9 o l r t)/\Below F.heap.size F L):=by
   have h:=aae x.hs (k9 o l r t) F (u.out.2.1.hs.at.below D) u.out.1.right bl.out.1;rw[show keptV x.hs.n x.hs.z (k9 o l r t).o (k9 o l r t).l (k9 o l r t).b=KV from d1.out] at h;exact h
  go_wp2_with fail;refine e8.out.mono ?_;rintro e w2 ⟨y,rfl,h1,h2,h3,a3⟩;have HR:Hid (cw w9.heap.size 61 w2 y/\y.n=qp x.hs.n x.hs.z (k9 o l r t)/\y.z=zj x.hs.n x.hs.z (k9 o l r t)):=⟨h1.mono (by omega),h2,h3⟩;clear h1 h2 h3;simp only[Hs.val];go_wp2_with fail;exact hK _ [] _ (Qqx (D.trans (a3.mono D.size))) a3 (λx hx=>by simp at hx) ⟨y,rfl,rfl,HR.out⟩
 case ztdone =>
  intro V G' F hS hD e6;obtain⟨y,-,db,co,yn,yz⟩:Ka w9.heap.size x.hs (k9 o l r t) (V 13) (G' 13) F:=hD 13 (by simp);have D:=ae hS;have dt:Eo x.hs.n x.hs.z (k9 o l r t) y:=⟨by rw[if_pos bl.out.2.2];exact yn,λj _=>by rw[yz]⟩;have q9:=ac.out.size;have qa:=D.size;obtain⟨b1,b2,b3,b4⟩:=dm.out;have ds:=ai.below u.out.2.1 D;have KA:=u.out.2.2.1.below D;have FA:=u.out.2.2.2.1.below D;have ZA:=u.out.2.2.2.2.2.below D;have cn:=ac.out.trans (D.mono (Qzx hA ac.out.size));have Q:o<x.os.n:=by rw[u.out.1.os.1];exact ho
  have cr:=(ds.withHolds (co.mono (by omega))).box KA 2 (.slice y.a y.n y.c);have KB:=KA.set 2 (.slice y.a y.n y.c);have FB:=FA.other (a:=⟨w.heap.size+1,2,none⟩) (Blk.ne2 FA KA (by decide)) (.slice y.a y.n y.c);have ZB:=ZA.other (a:=⟨w.heap.size+1,2,none⟩) (by show w.heap.size+1+1≠w.heap.size+1;omega) (.slice y.a y.n y.c);have b5:=cn.setCell (p:=⟨w.heap.size+1,2,none⟩) (by show A<=w.heap.size+1;omega) (.slice y.a y.n y.c);have am:l<(x.os.z o).ls.n:=by rw[(u.out.1.os.2 o Q).2.1];exact hl
  have dq:=u.out.1.stepAdd (av:=avT s o l) (order:=o) (line:=l) (b:=(r:Int)) (m:=t) ho hl (by have h:=ci.out t c7.out;rw[bi.out] at h;exact h) bl.out.2.2 dt;have bx:=(bc.out.below D).setNew (B:=w.heap.size+1) (by omega) 2 (.slice y.a y.n y.c);have z1:=KA.lt;have z2:=KA.frozen 2;have z3:=KA.k 2;obtain⟨U,b8⟩:∃U,F.setCell ⟨w.heap.size+1,2,none⟩ (.slice y.a y.n y.c)=U:=⟨_,rfl⟩;have dn:Hid (F.setCell ⟨w.heap.size+1,2,none⟩ (.slice y.a y.n y.c)=U):=b8;rw[b8] at cr KB FB ZB b5 bx;have cp:Hid (tr w U):=bx;have J:Hid (ai A U (withHolds x y)/\Blk U (w.heap.size+1) 31 7 (λi=>if i=2 then .slice y.a y.n y.c else x.cells.getD i default)/\Blk U g 3 (fq p).length (λj => .int .i64 ((fq p).getD j 0))/\Blk U (w.heap.size+1+1) 31 7 (λ_ => .slice .none 0 0)/\Below A w U/\ep s o l n (T.step (avT s o l) r) (withHolds (setLine x o l 3 (((x.os.z o).ls.z l).n-t)) y)):=⟨cr,KB,FB,ZB,b5,dq⟩;have c8:Hid (o<x.os.n/\l<(x.os.z o).ls.n/\(x.os.z o).ls.a=some ⟨E,0,none⟩/\A<=E):=⟨Q,am,u.out.2.2.2.2.1,b2⟩;have cq:Hid (((x.os.z o).ls.z l).n=((s.os.z o).ls.z l).n-(n-T.left)):=by
   show((x.os.z o).ls.z l).n=_;rw[(u.out.1.os.2 o Q).2.2 l am,if_pos ⟨rfl,rfl⟩]
   rfl
  clear bx bc hS hD e6 D ds KA FA ZA cn cr KB FB ZB b5 dq co yn yz dt b8 Q am u ac;simp only[ap,az,Qvz,Qwq,Qvx,Act.put,Qvq,Qwx,Qwz,db];refine cf 14 rfl ?_;go_wp2_with fail;refine⟨gy.yes,?_⟩;refine cf 15 rfl ?_;go_wp2_with fail;refine⟨gy.yes,?_⟩;refine NoPanic.normal ?_;rw[dn.out];clear z1 z2 z3 dn db b1 b2 b3 b4 q9 qa;obtain⟨Q,am,bz,hi⟩:=c8.out;obtain⟨gO,es,f1,f2,f3,f4,f5,f6,f7,f8,f9,ce,bq,cl,b9,bn⟩:=J.out.1.lineCell (o:=o) (l:=l) Q am;have b6:(x.os.z o).ls.a=some ⟨es,0,none⟩:=f5;rw[bz] at b6;simp only[Qkx,Qkz,and_true] at b6;subst b6;have bm:Hid (((withHolds x y).os.z o).ls.a=some ⟨E,0,none⟩):=f5;have s1:U.cell? ⟨w.heap.size+1,1,none⟩=some (.slice x.os.a x.os.n x.os.c):=J.out.2.1.k 1;have de:x.os.a=some ⟨gO,0,none⟩:=f1;rw[de] at s1;have da:U.cell? ⟨gO,o*2+1,none⟩=some (.slice (some ⟨E,0,none⟩) (x.os.z o).ls.n (x.os.z o).ls.c):=f4;have a9:U.cell? ⟨E,l*4+3,none⟩=some (.int .i64 ((x.os.z o).ls.z l).n):=bn;obtain⟨M,bp⟩:∃M,((x.os.z o).ls.z l).n=M:=⟨_,rfl⟩;have d4:Hid (((x.os.z o).ls.z l).n=M):=bp;have h7 : -1000<=M/\M<=1000:=by
   rw[<-bp,cq.out];have:=er (X.out.fm.line o ho l hl);have:=HN.out;omega
  rw[bp] at a9;have v1:x.os.n<=x.os.c:=J.out.1.os.le;have v2:x.os.c<=maxLen:=J.out.1.os.cap;have v3:(x.os.z o).ls.n<=(x.os.z o).ls.c:=f8;have v4:(x.os.z o).ls.c<=maxLen:=f9;unfold maxLen at v2 v4;have t1:=Qqq s1;have t2:=Qqq da;have t3:=Qqq a9;clear bp f1 f2 f3 f4 f5 f6 f7 f8 f9 ce bq cl b9 bn s1 de da a9 bz c8 cq;go_wp2_with fail;refine fh (λL=>∃p:Regrown,L=grow (redrawn U p.d) p.os) (List.range 21) [] [(true,21)] (Qqx (brf.drew)) ?_;rw[show List.range 21=[0,1,2,3,4,5,6,7,8,9,10,11,12,13,14,15,16,17,18,19,20] from rfl];simp only[du,Qyq,Xqq,Qyx,Qyz,Xqz,Xqx]
  repeat(go_big_quiet_step(fail))
  refine Qqz ?_;clear t1 t2 t3;refine⟨λ_ _ _ _=>True,Qjq _,Qjq _,Qjq _,λV G wj hS _ _ => ?_⟩;have D:=ae hS;have bo:=ai.below J.out.1 D;have Kj:=J.out.2.1.below D;have Fj:=J.out.2.2.1.below D;have Zj:=J.out.2.2.2.1.below D;have dj:=J.out.2.2.2.2.1.trans (D.mono (Qzx hA J.out.2.2.2.2.1.size));obtain⟨B',bb,-,-,-,af⟩:=bo.os.lines o Q;rw[bm.out] at bb;simp only[Qkx,Qkz,and_true] at bb;subst bb;have zl:=af.lt;have zf:=af.frozen (l*4+3);obtain⟨gq,Bq,-,-,-,-,g5,-,-,-,-,-,-,-,-,zc⟩:=bo.lineCell (o:=o) (l:=l) Q am;rw[bm.out] at g5;simp only[Qkx,Qkz,and_true] at g5;subst g5;have di:=bo.setLine (o:=o) Q bm.out l 3 (by decide) (M-t);have KC:=Kj.other (a:=⟨E,l*4+3,none⟩) (Blk.ne2 Kj af (by decide)) (.int .i64 (M-t));have FC:=Fj.other (a:=⟨E,l*4+3,none⟩) (Blk.ne2 Fj af (by decide)) (.int .i64 (M-t));have ZC:=Zj.other (a:=⟨E,l*4+3,none⟩) (Blk.ne2 Zj af (by decide)) (.int .i64 (M-t));have d3:=(cp.out.below D).setLine af (l*4+3) (.int .i64 (M-t));have dp:=dj.setCell (p:=⟨E,l*4+3,none⟩) (by show A<=E;omega) (.int .i64 (M-t));have P:Hid (Re s o l n (Tk.go (avT s o l) n (pv p but (k+1))) (fq p) A (w.heap.size+1) E g (wj.setCell ⟨E,l*4+3,none⟩ (.int .i64 (M-t)))/\(Tk.go (avT s o l) n (pv p but (k+1))).left=N-t/\Below A w (wj.setCell ⟨E,l*4+3,none⟩ (.int .i64 (M-t)))/\tr w (wj.setCell ⟨E,l*4+3,none⟩ (.int .i64 (M-t)))):=by
   refine⟨⟨withHolds (setLine x o l 3 (M-t)) y,?_,di,KC.congr (λj hj=>by match j,hj with|0,_=>rfl|1,_=>rfl|2,_=>rfl|3,_=>rfl|4,_=>rfl|5,_=>rfl|6,_=>rfl),FC,?_,ZC⟩,?_,dp,d3⟩
   .rw[bh.out];have h:=J.out.2.2.2.2.2;rw[d4.out] at h;exact h
   .exact((dr (s:=x) (o:=o) (l:=l) (c:=3) (v:=M-t) o).2.1).trans bm.out
   rw[bh.out];show T.left-min T.left _=N-t;have h:=ci.out t c7.out;rw[bi.out] at h;rw[h,HN.out]
  clear bo Kj Fj Zj dj af di KC FC ZC dp d3 cp D hS J;have ff:wj.cell? ⟨E,l*4+3,none⟩=some (.int .i64 ((x.os.z o).ls.z l).n):=zc;rw[d4.out] at ff;clear zc;simp only[ap];refine cf 21 rfl ?_;go_wp2_with fail;refine⟨gy.yes,?_⟩;refine NoPanic.normal ?_;go_wp2_with fail;go_roundw
  case rel=>exact⟨k+1,by omega,by go_num,by rw[P.out.2.1],P.out.1,P.out.2.2.1,P.out.2.2.2⟩
  case measure=>simp[intOf];omega
theorem Ly(p:Pl)(s:St)(w:World)(hp:p.At w)(hs:s.At w):
  Calls prog 55 #[p.val,s.val] w λe V=>∃x:St,e = .returned (.tuple #[x.val,.int .i64 (ag p s)])/\x.At V/\Gx p s x/\(ag p s=0->ai w.heap.size V x)/\Below w.heap.size w V:=by
 obtain⟨y,hW,a9,X0,Z0⟩:∃W,(((w.alloc (.cells #[.slice p.ab p.nb p.cb,.slice p.sa p.ns p.cs] 25)).alloc (.cells s.cells 31)).alloc (.cells #[.slice .none 0 0,.slice .none 0 0,.slice .none 0 0,.slice .none 0 0,.slice .none 0 0,.slice .none 0 0,.slice .none 0 0] 31))=W/\Below w.heap.size w W/\lx W w.heap.size (w.heap.size+1) p s/\Blk W (w.heap.size+2) 31 7 (λ_ => .slice .none 0 0):=
  ⟨_,rfl,(ix _ _ _).alloc (by simp;omega) _,(nt w p s _ _).below (brf.alloc nlr _),(Blk.mk' (cur:=#[.slice .none 0 0,.slice .none 0 0,.slice .none 0 0,.slice .none 0 0,.slice .none 0 0,.slice .none 0 0,.slice .none 0 0]) (by simp) rfl).congr (λj hj=>by match j,hj with|0,_=>rfl|1,_=>rfl|2,_=>rfl|3,_=>rfl|4,_=>rfl|5,_=>rfl|6,_=>rfl)⟩
 have HC:Hid (∀H,Below y.heap.size y H->lx H w.heap.size (w.heap.size+1) p s/\p.At H/\s.At H/\Below w.heap.size w H/\Blk H (w.heap.size+2) 31 7 (λ_ => .slice .none 0 0)):=λH h=>⟨X0.below h,(hp.below a9).below h,(hs.below a9).below h,a9.trans (h.mono a9.size),Z0.below h⟩;have HW:Hid (((w.alloc (.cells #[.slice p.ab p.nb p.cb,.slice p.sa p.ns p.cs] 25)).alloc (.cells #[.slice s.on.a s.on.n s.on.c,.slice s.os.a s.os.n s.os.c,.slice s.hs.a s.hs.n s.hs.c,.slice s.ms.a s.ms.n s.ms.c,.slice s.si.a s.si.n s.si.c,.slice s.so.a s.so.n s.so.c,.slice s.sf.a s.sf.n s.sf.c] 31)).alloc (.cells #[.slice .none 0 0,.slice .none 0 0,.slice .none 0 0,.slice .none 0 0,.slice .none 0 0,.slice .none 0 0,.slice .none 0 0] 31)=y):=hW;have leb:=hp.leb;have cj:=hp.capb;have les:=hp.les;have cl:=hp.caps;have capb:=cj;have caps:=cl;have gc:=Z0.lt;unfold maxLen at capb caps;clear hW X0 Z0 hp hs;unfold Pl.val St.val;go_enter func55,ntmps55;go_wp2_with fail;rw[HW.out];obtain⟨X,M,L,D,m⟩:=HC.out y brf;refine(ky p s y M L).mono ?_;rintro e t ⟨rfl,hB⟩;clear X M L D m HW;obtain⟨⟨⟨l1,d0,d1⟩,l2,c0,c1,c2,c3,c4,c5,c6⟩,M,L,D,m⟩:=HC.out t hB;by_cases h0:ag p s=0;rotate_left
 .have cu:Hid (¬ag p s=0):=h0;have g0:(ag p s !=0)=true:=by simpa using h0
  clear h0 M L;have zl:=m.lt;have cw:=m.frozen 0;have db:=m.k 0;have c8:=m.frozen 1;have zc1:=m.k 1;have dg:=m.frozen 2;have zc2:=m.k 2;have dx:=m.frozen 3;have zc3:=m.k 3;have da:=m.frozen 4;have zc4:=m.k 4;have cm:=m.frozen 5;have zc5:=m.k 5;have cn:=m.frozen 6;have c9:=m.k 6;go_wp2_with fail;have KZ:=nl m (.slice .none 0 0) (.slice .none 0 0) (.slice .none 0 0) (.slice .none 0 0) (.slice .none 0 0) (.slice .none 0 0) (.slice .none 0 0);have aw:=j7 (b:=w.heap.size+2) D (by omega) (.slice .none 0 0) (.slice .none 0 0) (.slice .none 0 0) (.slice .none 0 0) (.slice .none 0 0) (.slice .none 0 0) (.slice .none 0 0);unfold set7 at KZ aw;obtain⟨ce,bx,bs,b8,bk,b6,cf⟩:=df KZ;refine Xzq (v := .tuple #[j5.val,.int .i64 (ag p s)]) (by simp[results,results55,go_sem,j5,St.val,ce,bx,bs,b8,bk,b6,cf]) rfl ?_;exact⟨j5,rfl,uo _,⟨λh=>absurd h cu.out,λ_=>⟨rfl,rfl,rfl,rfl,rfl,rfl,rfl⟩⟩,λh=>absurd h cu.out,aw⟩
 have H0:Hid (ag p s=0):=h0;have HR:Hid (ar p s):=dp h0;rw[h0];clear h0;have ea:Hid (w.heap.size<=t.heap.size):=D.size;have cz:Hid (Calls prog 20 #[s.val] t λe V=>∃s':St,e = .returned s'.val/\af s' s/\ai t.heap.size V s'/\Below t.heap.size t V):=pd p s t L HR.out.fm;clear M L D m;go_wp2_with fail;refine Calls.mono cz.out ?_;rintro e w4 ⟨f,rfl,ad,ak,be⟩;clear cz l1 d0 d1 l2 c0 c1 c2 c3 c4 c5 c6;obtain⟨W5,dn,S,K5⟩:∃W,w4.alloc (.cells #[.slice f.on.a f.on.n f.on.c,.slice f.os.a f.os.n f.os.c,.slice f.hs.a f.hs.n f.hs.c,.slice f.ms.a f.ms.n f.ms.c,.slice f.si.a f.si.n f.si.c,.slice f.so.a f.so.n f.so.c,.slice f.sf.a f.sf.n f.sf.c] 31)=W/\Below w4.heap.size w4 W/\Blk W w4.heap.size 31 7 (λj=>f.cells.getD j default):=⟨_,rfl,brf.alloc nlr _,Blk.mk' rfl rfl⟩;have c7:Hid (w4.alloc (.cells #[.slice f.on.a f.on.n f.on.c,.slice f.os.a f.os.n f.os.c,.slice f.hs.a f.hs.n f.hs.c,.slice f.ms.a f.ms.n f.ms.c,.slice f.si.a f.si.n f.si.c,.slice f.so.a f.so.n f.so.c,.slice f.sf.a f.sf.n f.sf.c] 31)=W5):=dn;have a7:=be.trans (S.mono be.size);have dq:=hB.trans (a7.mono hB.size);have E:Hid (de t.heap.size w4.heap.size y (dh f 0) W5):=by
  show de t.heap.size w4.heap.size y (dh f 0) W5;rw[Qt];exact⟨ai.below ak S,K5,dq,a7.size⟩
 have an:Hid (af f s):=ad;have A1:y.heap.size<=t.heap.size:=hB.size;have A2:t.heap.size<=w4.heap.size:=be.size;have ol:f.os.n<=f.os.c:=(ai.below ak S).os.le;have oc:f.os.c<=maxLen:=(ai.below ak S).os.cap;unfold maxLen at oc;have e1:f.os.n<=4:=by rw[ad.os.1];exact HR.out.fm.os4
 clear dn ak K5 be S a7 dq ad hB;simp only[St.val];go_wp2_with fail;rw[c7.out];clear c7
 generalize w4.heap.size=B at *
 go_loopw [8] (λkv H=>∃k:Nat,k<=f.os.n/\kv = .int .i64 k/\Hid (de t.heap.size B y (dh f k) H)) (λkv _=>f.os.n-(intOf kv).toNat)
 case atStart=>exact⟨0,Qxz _,rfl,E⟩
 clear E;obtain⟨k,hk,rfl,g⟩:=hrel;have P:wr.cell? ⟨B,1,none⟩=some (.slice f.os.a f.os.n f.os.c):=g.out.box.k 1;have u2:=g.out.box.lt;by_cases r:k<f.os.n
 .have q0:(0:Int)<=(k:Int):=by omega
  have q1:(k:Int)<(f.os.n:Int):=by omega
  obtain⟨gO,U,g2,g3,g4,Q,g6⟩:=g.out.own.orderCells (o:=k) r;have aa:f.os.a=some ⟨gO,0,none⟩:=U;have HG:Hid (f.os.a=some ⟨gO,0,none⟩):=U;have ek:(dh f k).os.z k=f.os.z k:=xc _ nlr;rw[ek] at g4 Q;have ba:Hid ((dh f k).os.z k=f.os.z k):=ek;rw[aa] at P;have gf:=g6 (k*2);clear U aa g6 ek;by_cases ac:(f.os.z k).k=0;rotate_left
  .have G:Hid (de t.heap.size B y (dh f (k+1)) wr):=by show de _ _ _ (dh f (k+1)) _;rw[<-Qs ac];exact g.out
   have e7:((f.os.z k).k !=0)=true:=by simpa using ac
   clear ac Q ba
   generalize (f.os.z k).k=KK at *
   go_wp2_with fail;go_roundw
   case rel=>exact⟨k+1,by omega,by go_num,G⟩
   case measure=>simp[intOf];omega
  have az:Hid ((f.os.z k).k=0):=ac;rw[ac] at g4;have G:Hid (de t.heap.size B y (fj (dj (dh f k) k 1) k 0) (wr.setCell ⟨gO,k*2,none⟩ (.int .i64 1))):=by
   show de _ _ _ (fj (dj (dh f k) k 1) k 0) _;rw[Hm];obtain⟨gq,b1,b2,b3⟩:=g.out.own.os.list (by show 0<f.os.n;omega);have b9:f.os.a=some ⟨gq,0,none⟩:=b1;rw[HG.out] at b9;simp only[Qkx,Qkz,and_true] at b9;subst b9;exact⟨g.out.own.kind (o:=k) r b1 1,g.out.box.other (a:=⟨gO,k*2,none⟩) (Blk.ne2 g.out.box b3 (by decide)) _,g.out.bel.setCell (p:=⟨gO,k*2,none⟩) (by show y.heap.size<=gO;omega) _,by have:=g.out.le;simpa using this⟩
  have bd:Hid (∀j,((fj (dj (dh f k) k 1) k j).os.z k)=⟨1,yv (f.os.z k).ls j⟩):=λj=>by
   rw[xz,vo,ba.out]
  have ev:Hid (∀j,j<(f.os.z k).ls.n->((f.os.z k).ls.z j).b=0):=λj hj=>by
   have e:=an.out.os.2 k r;rw[e.2.2 j hj];exact(Hx HR.out (k:=k+1) (by rw[<-an.out.os.1];exact r) (by rw[<-e.2.1];exact hj) ⟨by omega,e.1▸az.out⟩).2.1
  have bl:Hid ((f.os.z k).ls.n<=(f.os.z k).ls.c/\(f.os.z k).ls.c<=maxLen):=by
   have h:=g.out.own.at.os.ods k r;rw[ba.out] at h;obtain⟨_,_,_,_,_,_,h⟩:=h;exact⟨h.le,h.cap⟩
  have ll:=bl.out.1;have lc:=bl.out.2;unfold maxLen at lc;clear ac ba bl;go_wp2_with fail;clear g4 Q gf P u2 g
  go_loopw [9] (λjv H=>∃j:Nat,j<=(f.os.z k).ls.n/\jv = .int .i64 j/\Hid (de t.heap.size B y (fj (dj (dh f k) k 1) k j) H)) (λjv _=>(f.os.z k).ls.n-(intOf jv).toNat)
  case atStart=>exact⟨0,Qxz _,rfl,G⟩
  clear G;obtain⟨j,hj,rfl,g⟩:=hrel;have P:wr.cell? ⟨B,1,none⟩=some (.slice f.os.a f.os.n f.os.c):=g.out.box.k 1;have u2:=g.out.box.lt;rw[HG.out] at P;obtain⟨gq,U,gs,gu,g4,Q,g6⟩:=g.out.own.orderCells (o:=k) r;have aa:f.os.a=some ⟨gq,0,none⟩:=U;rw[HG.out] at aa;simp only[Qkx,Qkz,and_true] at aa;subst aa;rw[bd.out j] at Q;have cc:wr.cell? ⟨gO,k*2+1,none⟩=some (.slice (f.os.z k).ls.a (f.os.z k).ls.n (f.os.z k).ls.c):=Q;clear U g4 Q g6;by_cases bc:j<(f.os.z k).ls.n;rotate_left
  .have ap:j=(f.os.z k).ls.n:=by omega
   have G:Hid (de t.heap.size B y (dh f (k+1)) wr):=by
    have h:=g.out;have e:Kl (dh f k) k=fj (dj (dh f k) k 1) k j:=by
     unfold Kl;have e2:((dh f k).os.z k).ls.n=j:=by show(im k k (f.os.z k)).ls.n=j;rw[Ap];exact ap.symm
     rw[e2]
    show de _ _ _ (dh f (k+1)) _;rw[<-Ta az.out,e];exact h
   subst ap;go_wp2_with fail;go_roundw
   case rel=>exact⟨k+1,by omega,by go_num,G⟩
   case measure=>simp[intOf];omega
  have q2:(0:Int)<=(j:Int):=by omega
  have q3:(j:Int)<((f.os.z k).ls.n:Int):=by omega
  have ff:j<((fj (dj (dh f k) k 1) k j).os.z k).ls.n:=by rw[bd.out];exact bc
  obtain⟨gr,BL,f1,f2,f3,f4,f5,f6,f7,f8,f9,bw,bf,ax,bb,av⟩:=g.out.own.lineCell (o:=k) (l:=j) r ff;rw[bd.out] at f5 bf ax bb av;have bm:(f.os.z k).ls.a=some ⟨BL,0,none⟩:=f5;have dr:Hid (((fj (dj (dh f k) k 1) k j).os.z k).ls.a=some ⟨BL,0,none⟩):=by show((fj (dj (dh f k) k 1) k j).os.z k).ls.a=_;rw[bd.out];exact bm
  have m:(yv (f.os.z k).ls j).z j=(f.os.z k).ls.z j:=if_neg (Nat.lt_irrefl _);have bp:wr.cell? ⟨BL,j*4+1,none⟩=some (.int .i64 ((f.os.z k).ls.z j).l):=by rw[<-m];exact ax
  have eu:Hid (setLine (fj (dj (dh f k) k 1) k j) k j 3 ((f.os.z k).ls.z j).l=fj (dj (dh f k) k 1) k (j+1)):=by
   have e:((dj (dh f k) k 1).os.z k).ls.z j=(f.os.z k).ls.z j:=by rw[vo];show((im k k (f.os.z k)).ls.z j)=_;rw[xc _ nlr]
   have h:=Wm (s:=dj (dh f k) k 1) (i:=k) (k:=j) (by rw[e];exact ev.out j bc);rw[e] at h;exact h
  rw[bm] at cc;have t1:=Qqq P;have t2:=Qqq cc;have t3:=Qqq bp;clear f1 f2 f3 f4 f5 bm f6 f8 f9 bw bf ax bp bb av m;go_wp2_with fail;clear P cc;refine jh [(true,[0,1,2,3,4,5,6,7,8,9,10,11,12,13,14,15,16,17,18],some 19)] ?_;refine⟨λV=>∃p:Regrown,V=grow (redrawn wr p.d) p.os,Qqx (brf.drew),λh=>(by cases h),?_⟩;simp only[du,Qyq,Xqq,Qyx,Qyz,Xqz,Xqx]
  repeat(go_big_quiet_step(fail))
  refine Qqz ?_;clear t1 t2 t3;have A:Below wr.heap.size wr wr.drew:=brf.drew
  generalize wr.drew=wj at *
  have b7:=g.out.own.below A;have Kj:=g.out.box.below A;have dc:=g.out.bel.trans (A.mono g.out.bel.size);have cq:=Qzx g.out.le A.size;obtain⟨Bq,a5,gp,-,-,aq⟩:=b7.os.lines k r;rw[dr.out] at a5;simp only[Qkx,Qkz,and_true] at a5;subst a5;have zl:=aq.lt;have zf:=aq.frozen (j*4+3);have zc:=aq.cell (j:=j*4+3) (by omega);have bv:=b7.setLine (o:=k) r dr.out j 3 (by decide) ((f.os.z k).ls.z j).l;have co:=Kj.other (a:=⟨BL,j*4+3,none⟩) (Blk.ne2 Kj aq (by decide)) (.int .i64 ((f.os.z k).ls.z j).l);have dl:=dc.setCell (p:=⟨BL,j*4+3,none⟩) (by show y.heap.size<=BL;omega) (.int .i64 ((f.os.z k).ls.z j).l);rw[eu.out] at bv;have G:Hid (de t.heap.size B y (fj (dj (dh f k) k 1) k (j+1)) (wj.setCell ⟨BL,j*4+3,none⟩ (.int .i64 ((f.os.z k).ls.z j).l))):=⟨bv,co,dl,by simpa using cq⟩;clear b7 Kj dc cq aq bv co dl A g
  generalize (ay ((fj (dj (dh f k) k 1) k j).os.z k).ls.n ((fj (dj (dh f k) k 1) k j).os.z k).ls.z).getD (j*4+3) default=VV at zc
  generalize ((f.os.z k).ls.z j).l=LV at *
  refine li 19 rfl ?_;go_wp2_with fail;refine NoPanic.normal ?_;go_wp2_with fail;go_roundw
  case rel=>exact⟨j+1,by omega,by go_num,G⟩
  case measure=>simp[intOf];omega
 have ey:k=f.os.n:=by omega
 subst ey;have HY:Hid (zi p s 0 (dh f f.os.n)):=by
  show af _ _;rw[an.out.os.1];exact Ju an.out _
 go_wp2_with fail;clear P u2
 go_loopw [10] (λkv H=>∃(i:Nat) (cur:St),i<=s.os.n/\kv = .int .i64 i/\Hid (de t.heap.size B y cur H)/\Hid (zi p s i cur)) (λkv _=>s.os.n-(intOf kv).toNat)
 case atStart=>exact⟨0,_,Qxz _,rfl,g,HY⟩
 clear HY g an hk r ol oc e1;obtain⟨i,cur,hi,rfl,g,HA⟩:=hrel;have J:Hid (Pos p (-1) (qt s) (dh s s.os.n) i 0 cur):=iq.pos (xd HR.out) (λa _=>nd s a) hi HA.out;have bz:Hid (cur.os.n=s.os.n):=J.out.al.osn;have n1:(cur.os.n:Int)<=(s.os.n:Int):=by rw[bz.out];omega
 have n2:(s.os.n:Int)<=(cur.os.n:Int):=by rw[bz.out];omega
 have P:wr.cell? ⟨B,1,none⟩=some (.slice cur.os.a cur.os.n cur.os.c):=g.out.box.k 1;have u2:=g.out.box.lt;have ol:cur.os.n<=cur.os.c:=g.out.own.os.le;have oc:cur.os.c<=maxLen:=g.out.own.os.cap;unfold maxLen at oc;by_cases r:i<s.os.n;rotate_left
 .have e9:i=s.os.n:=by omega
  have es:Hid (ka p s cur):=by have h:=HA.out;rw[e9] at h;exact h
  have q4:(cur.os.n:Int)<=(i:Int):=by omega
  have q5:cur.os.n<=i:=by omega
  obtain⟨m1,p0,p1,p2,p3,p4,p5,p6⟩:=Boxed.of g.out.box;obtain⟨-,-,-,D,m⟩:=HC.out wr g.out.bel;have HZ:Hid (Below w.heap.size w wr/\Blk wr (w.heap.size+2) 31 7 (λ_ => .slice .none 0 0)):=⟨D,m⟩;have zl:=m.lt;have cw:=m.frozen 0;have db:=m.k 0;have c8:=m.frozen 1;have zc1:=m.k 1;have dg:=m.frozen 2;have zc2:=m.k 2;have dx:=m.frozen 3;have zc3:=m.k 3;have da:=m.frozen 4;have zc4:=m.k 4;have cm:=m.frozen 5;have zc5:=m.k 5;have cn:=m.frozen 6;have c9:=m.k 6;have fk:=(HC.out _ brf).2.2.2.1.size;clear D m;go_wp2_with fail;have KZ:=nl HZ.out.2 (.slice cur.on.a cur.on.n cur.on.c) (.slice cur.os.a cur.os.n cur.os.c) (.slice cur.hs.a cur.hs.n cur.hs.c) (.slice cur.ms.a cur.ms.n cur.ms.c) (.slice cur.si.a cur.si.n cur.si.c) (.slice cur.so.a cur.so.n cur.so.c) (.slice cur.sf.a cur.sf.n cur.sf.c);have aw:=j7 (b:=w.heap.size+2) HZ.out.1 (by omega) (.slice cur.on.a cur.on.n cur.on.c) (.slice cur.os.a cur.os.n cur.os.c) (.slice cur.hs.a cur.hs.n cur.hs.c) (.slice cur.ms.a cur.ms.n cur.ms.c) (.slice cur.si.a cur.si.n cur.si.c) (.slice cur.so.a cur.so.n cur.so.c) (.slice cur.sf.a cur.sf.n cur.sf.c);have cd:=ai.set7 g.out.own HZ.out.2 (.slice cur.on.a cur.on.n cur.on.c) (.slice cur.os.a cur.os.n cur.os.c) (.slice cur.hs.a cur.hs.n cur.hs.c) (.slice cur.ms.a cur.ms.n cur.ms.c) (.slice cur.si.a cur.si.n cur.si.c) (.slice cur.so.a cur.so.n cur.so.c) (.slice cur.sf.a cur.sf.n cur.sf.c);unfold set7 at KZ aw cd;obtain⟨ce,bx,bs,b8,bk,b6,cf⟩:=df KZ;refine Xzq (v := .tuple #[cur.val,.int .i64 0]) (by simp[results,results55,go_sem,St.val,ce,bx,bs,b8,bk,b6,cf]) rfl ?_;exact⟨cur,by rw[H0.out];rfl,cd.at,⟨λ_=>es.out,λh=>absurd H0.out h⟩,λ_=>cd.mono ea.out,aw⟩
 have q0:(0:Int)<=(i:Int):=by omega
 have q1:(i:Int)<(cur.os.n:Int):=by omega
 have ex:i<cur.os.n:=by omega
 have F:Hid (xq p s i 0 cur):=HA.out.row;have E:Hid (¬((dh s s.os.n).os.z i).k=1->zi p s (i+1) cur):=λh=>HA.out.skip HR.out r h;go_wp2_with fail;clear P u2 ol oc q1 ex n1 n2 HA J bz
 go_loopw [11] (λjv H=>∃(j:Nat) (q:St),j<=(s.os.z i).ls.n/\jv = .int .i64 j/\Hid (de t.heap.size B y q H)/\Hid (xq p s i j q)/\Hid (¬((dh s s.os.n).os.z i).k=1->zi p s (i+1) q)) (λjv _=>(s.os.z i).ls.n-(intOf jv).toNat)
 case atStart=>exact⟨0,cur,Qxz _,rfl,g,F,E⟩
 clear g F E;obtain⟨j,q,hj,rfl,g,F,E⟩:=hrel;have J:Hid (Pos p (-1) (qt s) (dh s s.os.n) i j q):=F.out.pos HR.out r hj;have en:=J.out.al.osn;have cp:q.os.n=s.os.n:=en;have bt:i<q.os.n:=by rw[cp];exact r
 have q1:(i:Int)<(q.os.n:Int):=by omega
 have kk:=J.out.al.kind i r;have au:Hid ((q.os.z i).k=((dh s s.os.n).os.z i).k):=kk.1;have kn:(q.os.z i).ls.n=(s.os.z i).ls.n:=kk.2.trans (nd s i).symm;have gt:Hid ((q.os.z i).ls.n=(s.os.z i).ls.n):=kn;obtain⟨gO,U,g2,g3,g4,Q,g6⟩:=g.out.own.orderCells (o:=i) bt;have P:wr.cell? ⟨B,1,none⟩=some (.slice q.os.a q.os.n q.os.c):=g.out.box.k 1;rw[U] at P;have HG:Hid (q.os.a=some ⟨gO,0,none⟩):=U;have u2:=g.out.box.lt;have ol:q.os.n<=q.os.c:=g.out.own.os.le;have oc:q.os.c<=maxLen:=g.out.own.os.cap;unfold maxLen at oc;have e3:=g.out.own.at.os.ods i bt;obtain⟨_,_,_,_,_,_,b5⟩:=e3;have ll:=b5.le;have lc:=b5.cap;unfold maxLen at lc;clear U g6 en cp kk b5;by_cases bc:j<(q.os.z i).ls.n;rotate_left
 .have ap:j=(s.os.z i).ls.n:=by omega
  have G:Hid (zi p s (i+1) q):=by have h:=F.out;rw[ap] at h;exact h.next
  have q4:((q.os.z i).ls.n:Int)<=(j:Int):=by omega
  have q5:¬(j:Int)<((q.os.z i).ls.n:Int):=by omega
  clear ap au E F J;go_wp2_with fail;go_roundw
  case rel=>exact⟨i+1,q,by omega,by go_num,g,G⟩
  case measure=>simp[intOf];omega
 have q2:(0:Int)<=(j:Int):=by omega
 have q3:(j:Int)<((q.os.z i).ls.n:Int):=by omega
 by_cases Y:(q.os.z i).k=1;rotate_left
 .have G:Hid (zi p s (i+1) q):=E.out (by rw[<-au.out];exact Y);have e7:((q.os.z i).k==1)=false:=by simpa using Y
  clear Y au E F J
  generalize (q.os.z i).k=KK at *
  go_wp2_with fail;go_roundw
  case rel=>exact⟨i+1,q,by omega,by go_num,g,G⟩
  case measure=>simp[intOf];omega
 have az:Hid (((dh s s.os.n).os.z i).k=1):=au.out.symm.trans Y;rw[Y] at g4;clear Y;have dm:j<(s.os.z i).ls.n:=by omega
 have dw:Hid (km p (-1) q i j (qt s i j)):=F.out.stepIn HR.out r dm;have HQ:Hid (qt s i j=((q.os.z i).ls.z j).n):=by
  have e:=J.out.later i j r (by rw[<-nd];exact dm) (λe=>by unfold ng at e;omega);rw[e.1];exact if_pos az.out
 obtain⟨gr,BL,f1,f2,f3,f4,f5,f6,f7,f8,f9,bw,bf,ax,bb,av⟩:=g.out.own.lineCell (o:=i) (l:=j) bt bc;rw[f5] at Q;obtain⟨⟨⟨l1,d0,d1⟩,l2,c0,c1,c2,c3,c4,c5,c6⟩,M,L,D,m⟩:=HC.out wr g.out.bel;obtain⟨m1,p0,p1,p2,p3,p4,p5,p6⟩:=Boxed.of g.out.box;rw[HG.out] at p1;have dk:Hid (p.At wr):=M;have dv:Hid (∀x,l6 p (-1) q i j ((q.os.z i).ls.z j).n x->xq p s i (j+1) x):=λx T=>F.out.step (by rw[HQ.out];exact T);have di:Hid (i6 p q i j ((q.os.z i).ls.z j).n):=by show i6 _ _ _ _ _;rw[<-HQ.out];exact dw.out.tki
 clear f1 f2 f3 f4 f5 f6 f8 f9 bw bf ax bb M L D m c0 c1 c2 c3 c4 c5 c6 l2 dw F J au E
 generalize ((q.os.z i).ls.z j).n=NB at *
 have t0:∀d os,(grow (redrawn wr d) os).cell? ⟨w.heap.size,0,none⟩=some (.slice p.ab p.nb p.cb):=λdd os=>Qqq d0 dd os;have t1:∀d os,(grow (redrawn wr d) os).cell? ⟨w.heap.size,1,none⟩=some (.slice p.sa p.ns p.cs):=λdd os=>Qqq d1 dd os;have s0:=Qqq p0;have s1:=Qqq p1;have s2:=Qqq p2;have s3:=Qqq p3;have s4:=Qqq p4;have s5:=Qqq p5;have s6:=Qqq p6;have s7:=Qqq Q;have s8:=Qqq av;clear d0 d1 p0 p1 p2 p3 p4 p5 p6 av;go_wp2_with fail;clear P g4 Q;refine jh [(true,[0,1,2,3,4,5,6,7,8,9,10,11,12,13],some 14),(false,[15,16,17],some 18)] ?_;refine⟨λV=>∃p:Regrown,V=grow (redrawn wr p.d) p.os,Qqx (brf.drew),λh=>(by cases h),?_⟩;simp only[du,Qyq,Xqq,Qyx,Qyz,Xqz,Xqx]
 repeat(go_big_quiet_step(fail))
 refine Qqz ?_;clear t0 t1 s0 s1 s2 s3 s4 s5 s6 s7 s8;have A:Below wr.heap.size wr wr.drew:=brf.drew
 generalize wr.drew=wj at *
 have dt:Hid (p.At wj):=dk.out.below A;have ct:Hid (ai t.heap.size wj q):=g.out.own.below A;have bu:Hid (t.heap.size<=wj.heap.size):=Qzx g.out.le A.size;have cy:Hid (Below y.heap.size y wj):=g.out.bel.trans (A.mono g.out.bel.size);have cv:Hid (Blk wj B 31 7 (λj=>q.cells.getD j default)):=g.out.box.below A;clear A dk g;refine li 14 rfl ?_;go_wp2_with fail;rw[<-HG.out];refine(Ml p q i j t.heap.size NB (-1) wj dt.out ct.out bu.out di.out).mono ?_;rintro e w8 ⟨x,rfl,T,cx,bn,ds⟩;have HT:Hid (xq p s i (j+1) x):=dv.out x T;have b0:Hid (Blk w8 B 31 7 (λj=>q.cells.getD j default)):=ds _ _ _ _ (by decide) cv.out;have fb:Hid (ai t.heap.size w8 x):=cx;have e8:Hid (Below y.heap.size y w8):=cy.out.trans (bn.mono A1);have fd:Hid (t.heap.size<=w8.heap.size):=Qzx bu.out bn.size;clear T cx bn ds dv di dt ct bu cy cv HG
 generalize (Tk.go (avT q i j) NB (fg p (-1))).left=LL at *
 simp only[St.val];go_wp2_with fail;refine⟨λ_=>True,trivial,λ_ _=>trivial,?_⟩;simp only[du,Qyq,Xqq,Qyx,Qyz,Xqz,Xqx]
 repeat(go_big_quiet_step(fail))
 refine Qqz ?_;have u:=b0.out;have zl:=u.lt;have cw:=u.frozen 0;have db:=u.k 0;have c8:=u.frozen 1;have zc1:=u.k 1;have dg:=u.frozen 2;have zc2:=u.k 2;have dx:=u.frozen 3;have zc3:=u.k 3;have da:=u.frozen 4;have zc4:=u.k 4;have cm:=u.frozen 5;have zc5:=u.k 5;have cn:=u.frozen 6;have c9:=u.k 6;clear u;refine li 18 rfl ?_;go_wp2_with fail;have G:Hid (de t.heap.size B y x (set7 w8 B (.slice x.on.a x.on.n x.on.c) (.slice x.os.a x.os.n x.os.c) (.slice x.hs.a x.hs.n x.hs.c) (.slice x.ms.a x.ms.n x.ms.c) (.slice x.si.a x.si.n x.si.c) (.slice x.so.a x.so.n x.so.c) (.slice x.sf.a x.sf.n x.sf.c))):=by
  have K:=nl b0.out (.slice x.on.a x.on.n x.on.c) (.slice x.os.a x.os.n x.os.c) (.slice x.hs.a x.hs.n x.hs.c) (.slice x.ms.a x.ms.n x.ms.c) (.slice x.si.a x.si.n x.si.c) (.slice x.so.a x.so.n x.so.c) (.slice x.sf.a x.sf.n x.sf.c);have hb:=j7 (b:=B) e8.out (Qzx A1 A2) (.slice x.on.a x.on.n x.on.c) (.slice x.os.a x.os.n x.os.c) (.slice x.hs.a x.hs.n x.hs.c) (.slice x.ms.a x.ms.n x.ms.c) (.slice x.si.a x.si.n x.si.c) (.slice x.so.a x.so.n x.so.c) (.slice x.sf.a x.sf.n x.sf.c);exact⟨ai.set7 fb.out b0.out (.slice x.on.a x.on.n x.on.c) (.slice x.os.a x.os.n x.os.c) (.slice x.hs.a x.hs.n x.hs.c) (.slice x.ms.a x.ms.n x.ms.c) (.slice x.si.a x.si.n x.si.c) (.slice x.so.a x.so.n x.so.c) (.slice x.sf.a x.sf.n x.sf.c),K.congr (λj hj=>by match j,hj with|0,_=>rfl|1,_=>rfl|2,_=>rfl|3,_=>rfl|4,_=>rfl|5,_=>rfl|6,_=>rfl),hb,by have:=fd.out;simpa[set7] using this⟩
 unfold set7 at G;refine NoPanic.normal ?_;go_wp2_with fail;go_roundw
 case rel=>exact⟨j+1,x,by omega,by go_num,G,HT,λh=>absurd az.out h⟩
 case measure=>simp[intOf];omega
theorem R5(h:af x s)(b:o<x.os.n){k:Hs}(d:k.n=(dz s.hs (λx=>x.o==(o:Int))).n)(a:∀j,j<k.n->k.z j=(dz s.hs (λx=>x.o==(o:Int))).z j):af (fj (dj (withHolds x k) o 2) o (x.os.z o).ls.n) (ed s o):=
 have c:=Fu h b
 ⟨c.on,c.os,⟨d,a⟩,c.ms,c.si,c.so,c.sf⟩
theorem Mt(p:Pl)(s:St)(order:Int)(w:World)(hp:p.At w)(hs:s.At w):
  Calls prog 56 #[p.val,s.val,.int .i64 order] w λe Q=>∃x:St,e = .returned (.tuple #[x.val,.int .i64 (gx p s order)])/\x.At Q/\ij (gx p s order) (ed s order.toNat) x/\(gx p s order=0->ai w.heap.size Q x)/\Below w.heap.size w Q:=by
 obtain⟨H,hW,eo,X0,Z0⟩:=Cd w p s;have HC:=Bb hp hs eo X0 Z0;have HW:=hid hW;have leb:=hp.leb;have cj:=hp.capb;have les:=hp.les;have cm:=hp.caps;have capb:=cj;have caps:=cm;have gu:=Z0.lt;unfold maxLen at capb caps;have hn:=hs.os.le;have dv:=hs.os.cap;have fx:=dv;unfold maxLen at fx;clear hW X0 Z0 hp hs;unfold Pl.val St.val;go_enter func56,ntmps56;go_wp2_with fail;rw[HW.out];obtain⟨X,B,i,r,t⟩:=HC.out H brf;refine(ky p s H B i).mono ?_;rintro e m ⟨rfl,hB⟩;clear X B i r t HW;obtain⟨⟨⟨l1,d0,d1⟩,l2,c0,c1,c2,c3,c4,c5,c6⟩,B,i,r,t⟩:=HC.out m hB;by_cases Y:ag p s=0;rotate_left
 .have HX:Hid (gx p s order=ag p s):=v7 Y;have ep:Hid (¬gx p s order=0):=by show ¬_;rw[v7 Y];exact Y
  have g0:(ag p s !=0)=true:=by simpa using Y
  clear Y;clear B i;obtain⟨zl,bb,bm,bg,zc1,bn,zc2,cb,zc3,bj,zc4,a7,zc5,a8,bi⟩:=z7 t;go_wp2_with fail;exact ip results56 t r (by omega) HX.out (λh=>ep.out (HX.out.trans h)) rfl rfl rfl
 have H0:=hid Y;have HR:Hid (ar p s):=dp Y;rw[Y];clear Y;cases k1:inB order 0 ((s.os.n:Int)-1)
 .have HX:Hid (gx p s order=4):=D5 H0.out k1;clear B i;obtain⟨zl,bb,bm,bg,zc1,bn,zc2,cb,zc3,bj,zc4,a7,zc5,a8,bi⟩:=z7 t;go_wp2_with(go_at_call 23;refine ah (cg _ _ _ _) ?_);exact ip results56 t r (by omega) HX.out (by decide) rfl rfl rfl
 have fr:=au k1;obtain⟨o,rfl⟩:=Qzz fr.1;have ho:o<s.os.n:=by omega
 have q0:(0:Int)<=(o:Int):=by omega
 obtain⟨bo,oo,b6,fi,z0,z1,ff⟩:=i.os.ods o ho;have da:=hid b6;rw[b6] at c1;clear b6 z1 ff;by_cases k2:(s.os.z o).k=2
 .have HX:Hid (gx p s (o:Int)=6):=D4 H0.out k1 k2;rw[k2] at z0;clear k2;clear B i;obtain⟨zl,bb,bm,bg,zc1,bn,zc2,cb,zc3,bj,zc4,a7,zc5,a8,bi⟩:=z7 t;go_wp2_with(go_at_call 23;refine ah (cg _ _ _ _) ?_);exact ip results56 t r (by omega) HX.out (by decide) rfl rfl rfl
 have HX:Hid (gx p s (o:Int)=0):=Na H0.out k1 k2;have g2:((s.os.z o).k==2)=false:=by simpa using k2
 clear k2
 generalize (s.os.z o).k=KK at *
 have eb:=hid r.size;have cv:Hid (Calls prog 20 #[s.val] m λe Q=>∃s':St,e = .returned s'.val/\af s' s/\ai m.heap.size Q s'/\Below m.heap.size m Q):=pd p s m i HR.out.fm;clear B i r t;go_wp2_with(go_at_call 23;refine ah (cg _ _ _ _) ?_);rw[<-da.out];refine Calls.mono cv.out ?_;rintro e w4 ⟨f,rfl,T,b4,aw⟩;clear cv l1 d0 d1 l2 c0 c1 c2 c3 c4 c5 c6 z0 fi k1 g2 da;obtain⟨W5,dd,aq,K5⟩:∃W,w4.alloc (.cells #[.slice f.on.a f.on.n f.on.c,.slice f.os.a f.os.n f.os.c,.slice none 0 0,.slice f.ms.a f.ms.n f.ms.c,.slice f.si.a f.si.n f.si.c,.slice f.so.a f.so.n f.so.c,.slice f.sf.a f.sf.n f.sf.c] 31)=W/\Below w4.heap.size w4 W/\Blk W w4.heap.size 31 7 (λj=>(withHolds f ⟨none,0,0,ofL []⟩).cells.getD j default):=⟨_,rfl,brf.alloc nlr _,Blk.mk' rfl rfl⟩;have cy:Hid (w4.alloc (.cells #[.slice f.on.a f.on.n f.on.c,.slice f.os.a f.os.n f.os.c,.slice none 0 0,.slice f.ms.a f.ms.n f.ms.c,.slice f.si.a f.si.n f.si.c,.slice f.so.a f.so.n f.so.c,.slice f.sf.a f.sf.n f.sf.c] 31)=W5):=dd;have an:=aw.trans (aq.mono aw.size);have dg:=hB.trans (an.mono hB.size);have E:o<f.os.n:=by rw[T.os.1];exact ho
 have cs:=hid T;have A1:H.heap.size<=m.heap.size:=hB.size;have A2:m.heap.size<=w4.heap.size:=aw.size;have co:Hid (de m.heap.size w4.heap.size H (withHolds f ⟨none,0,0,ofL []⟩) W5):=⟨(ai.below b4 aq).withHolds (h:=⟨none,0,0,ofL []⟩) (cw.nil _ _ _ _),K5,dg,an.size⟩;have P:Hid (fu m.heap.size W5 61 4 none 0):=Or.inl rfl;clear dd b4 K5 aw aq an dg T hB;simp only[St.val];go_wp2_with fail;rw[cy.out]
 generalize w4.heap.size=y at *
 go_loopw [10] (λkv wk=>∃(k:Nat) (h:Hs),k<=s.hs.n/\kv = .int .i64 k/\Hid (de m.heap.size y H (withHolds f h) wk)/\Hid (fu m.heap.size wk 61 4 h.a h.c)/\Hid (h.n=(pj s.hs (λx=>x.o==(o:Int)) k).length/\h.z=ofL (pj s.hs (λx=>x.o==(o:Int)) k))) (λkv _=>s.hs.n-(intOf kv).toNat)
 case atStart=>exact⟨0,⟨none,0,0,ofL []⟩,Qxz _,rfl,co,P,⟨rfl,rfl⟩⟩
 clear co P cy;obtain⟨k,h,hk,rfl,g,P,HL⟩:=hrel;obtain⟨⟨⟨l1,d0,d1⟩,l2,c0,c1,c2,c3,c4,c5,c6⟩,B,i,r,t⟩:=HC.out wr g.out.bel;have hq:=i.hs.le;have eq:=i.hs.cap;unfold maxLen at eq;have hg:=HR.out.fm.hs72;by_cases b7:k<s.hs.n
 .have q2:(0:Int)<=(k:Int):=by omega
  have q3:(k:Int)<(s.hs.n:Int):=by omega
  obtain⟨bh,oh,dk,hm,v0,v1,v2,v3⟩:=i.hs.hds k b7;rw[dk] at c2;clear dk B i r t;by_cases S:(s.hs.z k).o=(o:Int)
  .have HN:Hid (h.n=(pj s.hs (λx=>x.o==(o:Int)) (k+1)).length/\h.z=ofL (pj s.hs (λx=>x.o==(o:Int)) (k+1))):=by
    show h.n=_/\h.z=_;rw[Wl b7 (by simpa using S)];exact HL.out
   have g3:((s.hs.z k).o !=(o:Int))=false:=by simpa using S
   clear S
   generalize s.hs.z k=Z at *
   go_wp2_with fail;go_roundw
   case rel=>exact⟨k+1,h,by omega,by go_num,g,P,HN⟩
   case measure=>simp[intOf];omega
  have ba:Hid (pj s.hs (λx=>x.o==(o:Int)) (k+1)=pj s.hs (λx=>x.o==(o:Int)) k++[s.hs.z k]):=Zc b7 (by simpa using S);have g3:((s.hs.z k).o !=(o:Int))=true:=by simpa using S
  have F:Hid (h.n<=72):=by have:=Zd s.hs (λx=>x.o==(o:Int)) k;have:=HL.out.1;show h.n<=72;omega
  clear S;obtain⟨-,p0,p1,p2,p3,p4,p5,p6⟩:=Boxed.of g.out.box;have dr:wr.cell? ⟨y,2,none⟩=some (.slice h.a h.n h.c):=p2;have HZ:Hid (∃Z,s.hs.z k=Z):=⟨_,rfl⟩
  generalize s.hs.z k=Z at *
  have t1:=Qqq dr;have t2:=Qqq c2;have t3:=Qqq v0;have t4:=Qqq v1;have t5:=Qqq v2;have t6:=Qqq v3;have xl:=g.out.box.lt;clear p0 p1 p2 dr p3 p4 p5 p6 HZ;go_wp2_with fail;clear c0 c1 c2 c3 c4 c5 c6 v0 v1 v2 v3;refine fh (λQ=>∃p:Regrown,Q=grow (redrawn wr p.d) p.os) [0,1,2,3,4,5,6] [] [(false,7),(true,8),(true,9),(true,10)] (Qqx (brf.drew)) ?_;simp only[du,Qyq,Xqq,Qyx,Qyz,Xqz,Xqx]
  repeat(go_big_quiet_step(fail))
  refine Qqz ?_;clear t1 t2 t3 t4 t5 t6;refine⟨λ_ _ _ _=>True,Qjq _,Qjq _,Qjq _,λV G U hS _ _ => ?_⟩;have D:=ae hS;clear hS;obtain⟨W9,bx,br,K9⟩:∃W,U.alloc (.cells #[.int .i64 Z.o,.int .i64 Z.l,.int .i64 Z.b,.int .i64 Z.n] 61)=W/\Below U.heap.size U W/\Blk W U.heap.size 61 4 (λj=>(#[.int .i64 Z.o,.int .i64 Z.l,.int .i64 Z.b,.int .i64 Z.n]:Array Value).getD j default):=⟨_,rfl,brf.alloc nlr _,Blk.mk' rfl rfl⟩;have e0:Hid (U.alloc (.cells #[.int .i64 Z.o,.int .i64 Z.l,.int .i64 Z.b,.int .i64 Z.n] 61)=W9):=bx;have M:=D.trans (br.mono D.size);have aj:=hid (g.out.own.below M);have cq:=hid (P.out.below M);have cu:=hid (g.out.box.below M);have bs:=hid (g.out.bel.trans (M.mono g.out.bel.size));have av:Hid (m.heap.size<=W9.heap.size):=Qzx g.out.le M.size;have dq:Hid (∀j u,(dc Z)[j]?=some u->W9.cell? ((⟨U.heap.size,0,none⟩:Addr).add j)=some u):=by rw[<-bx];exact Cc _ _ _
  have ev:=hid M;clear D br M bx K9 g P;simp only[ap];refine cf 7 rfl ?_;go_wp2_with fail;rw[e0.out];refine⟨gy.no (Qqx ev.out),?_⟩;obtain⟨iO,hO,ez,ey,ex⟩:=info_parts Jj;refine cf 8 rfl ?_;go_wp2_with(at_builtin;refine ui W9 rfl (.tmp 54) (.tmp 60) 28 rfl m.heap.size 61 iO (.agg #[.int .i64 0,.int .i64 0,.int .i64 0,.int .i64 0]) 4 32 underlying28 hO ez ey ex rfl (by decide) h.a h.n h.c (ay h.n h.z) rfl cq.out aj.out.hs.1 aj.out.hs.2.1 (eu _ _) aj.out.hs.2.2.2 ⟨U.heap.size,0,none⟩ 1 1 (dc Z) rfl rfl dq.out (Ao _) (by decide) ?zc3 ?zc4 ?zc5 ?_)
  case zc3=>have:=F.out;unfold maxLen;omega
  case zc4=>have:=F.out;omega
  case zc5=>exact av.out
  intro v2 w2 J A;have cn:Hid (∃q:Hs,v2 = .slice q.a q.n q.c/\(q.n=(pj s.hs (λx=>x.o==(o:Int)) (k+1)).length/\q.z=ofL (pj s.hs (λx=>x.o==(o:Int)) (k+1)))/\cw m.heap.size 61 w2 q/\fu m.heap.size w2 61 4 q.a q.c):=by
   have e:ay h.n h.z++dc Z=ay (pj s.hs (λx=>x.o==(o:Int)) (k+1)).length (ofL (pj s.hs (λx=>x.o==(o:Int)) (k+1))):=by
    rw[ba.out,Wg,HL.out.1,HL.out.2]
   have e2:h.n+1=(pj s.hs (λx=>x.o==(o:Int)) (k+1)).length:=by rw[ba.out,List.length_append,HL.out.1];rfl
   rw[e,e2] at J;obtain⟨q,a1,a2,a3,a4,a5⟩:=cw.ofOwns J (λe3=>by
    rcases J.2 with⟨_,e4⟩|⟨_,_,_,e4,_⟩
    .omega
    rw[e3] at e4;cases e4)
   exact⟨q,a1,⟨a2,a3⟩,a4,a5⟩
  obtain⟨q,rfl,ct,ao,cz⟩:=cn.out;have fy:=hid ct;have K2:=A.blk cu.out (by decide);have z1:=K2.lt;have z2:=K2.frozen 2;have z3:=K2.k 2;have dm:=aj.out.moreH A ao;have HN:Hid (de m.heap.size y H (withHolds f q) (w2.setCell ⟨y,2,none⟩ (.slice q.a q.n q.c))):=by
   have ew:=A.below bs.out (by omega) bs.out.size;exact⟨dm.box K2 2 _,(K2.set 2 _).congr (λj hj=>by match j,hj with|0,_=>rfl|1,_=>rfl|2,_=>rfl|3,_=>rfl|4,_=>rfl|5,_=>rfl|6,_=>rfl),ew.setCell (p:=⟨y,2,none⟩) (by show H.heap.size<=y;omega) _,by
    have h1:=ao;have h3:m.heap.size<=w2.heap.size:=Qzx av.out (A.below (Below.refl m.heap.size W9) nlr av.out).size
    simpa using h3⟩
  have et:Hid (fu m.heap.size (w2.setCell ⟨y,2,none⟩ (.slice q.a q.n q.c)) 61 4 q.a q.c):=cz.set _ _ _;clear J A ct ao cz K2 dm cn aj cq cu bs av dq ba HL F;refine l8 ⟨gy.yes,?_⟩;refine cf 9 rfl ?_;go_wp2_with fail;refine⟨gy.yes,?_⟩;refine cf 10 rfl ?_;go_wp2_with fail;refine⟨gy.yes,?_⟩;refine NoPanic.normal ?_;go_wp2_with fail;go_roundw
  case rel=>exact⟨k+1,q,by omega,by go_num,HN,et,fy⟩
  case measure=>simp[intOf];omega
 have cx:k=s.hs.n:=by omega
 have q4:(s.hs.n:Int)<=(k:Int):=by omega
 have HD:Hid (h.n=(dz s.hs (λx=>x.o==(o:Int))).n/\∀j,j<h.n->h.z j=(dz s.hs (λx=>x.o==(o:Int))).z j):=by
  have e:=HL.out;rw[cx] at e;have e2:=V8 s.hs (λx=>x.o==(o:Int));exact⟨e.1.trans e2.1.symm,λj _=>by rw[e.2,e2.2]⟩
 obtain⟨K,g1,g2,g3,g4,g5,g6⟩:=g.out.own.orderCells (o:=o) E;have L:f.os.a=some ⟨K,0,none⟩:=g1;have HG:Hid (f.os.a=some ⟨K,0,none⟩):=L;have u1:wr.cell? ⟨y,1,none⟩=some (.slice f.os.a f.os.n f.os.c):=g.out.box.k 1;have u2:=g.out.box.lt;rw[L] at u1;have gf:=g6 (o*2);have ol:f.os.n<=f.os.c:=g.out.own.os.le;have oc:f.os.c<=maxLen:=g.out.own.os.cap;unfold maxLen at oc;have a9:Hid ((f.os.z o).ls.n<=(f.os.z o).ls.c/\(f.os.z o).ls.c<=maxLen):=by
  have h:=g.out.own.at.os.ods o E;obtain⟨_,_,_,_,_,_,h⟩:=h;exact⟨h.le,h.cap⟩
 have ll:=a9.out.1;have lc:=a9.out.2;unfold maxLen at lc;have HN:Hid (de m.heap.size y H (fj (dj (withHolds f h) o 2) o 0) (wr.setCell ⟨K,o*2,none⟩ (.int .i64 2))):=by
  show de _ _ _ (fj (dj (withHolds f h) o 2) o 0) _;rw[Hm];obtain⟨gq,b1,b2,b3⟩:=g.out.own.os.list (by show 0<f.os.n;omega);have bz:f.os.a=some ⟨gq,0,none⟩:=b1;rw[HG.out] at bz;simp only[Qkx,Qkz,and_true] at bz;subst bz;exact⟨g.out.own.kind (o:=o) E b1 2,g.out.box.other (a:=⟨K,o*2,none⟩) (Blk.ne2 g.out.box b3 (by decide)) _,g.out.bel.setCell (p:=⟨K,o*2,none⟩) (by show H.heap.size<=K;omega) _,by have:=g.out.le;simpa using this⟩
 have F:Hid (∀j,((fj (dj (withHolds f h) o 2) o j).os.z o)=⟨2,yv (f.os.z o).ls j⟩):=λj=>by
  rw[xz,vo]
  rfl
 have c8:Hid (∀j,j<(f.os.z o).ls.n->(0<=((f.os.z o).ls.z j).l/\((f.os.z o).ls.z j).l<=200)/\0<=((f.os.z o).ls.z j).b/\((f.os.z o).ls.z j).b<=200):=λj hj=>by
  have e:=cs.out.os.2 o E;have hl:=er (HR.out.fm.line o ho j (by rw[<-e.2.1];exact hj));rw[e.2.2 j hj];omega
 clear g1 L g6 cx B i r t HL P a9;go_wp2_with fail;clear g4 g5 gf u1 u2 g l1 d0 d1 l2 c0 c1 c2 c3 c4 c5 c6
 go_loopw [11] (λjv wk=>∃j:Nat,j<=(f.os.z o).ls.n/\jv = .int .i64 j/\Hid (de m.heap.size y H (fj (dj (withHolds f h) o 2) o j) wk)) (λjv _=>(f.os.z o).ls.n-(intOf jv).toNat)
 case atStart=>exact⟨0,Qxz _,rfl,HN⟩
 clear HN;obtain⟨j,hj,rfl,g⟩:=hrel;have u1:wr.cell? ⟨y,1,none⟩=some (.slice f.os.a f.os.n f.os.c):=g.out.box.k 1;have u2:=g.out.box.lt;rw[HG.out] at u1;obtain⟨gq,g1,hi,hr,g4,g5,g6⟩:=g.out.own.orderCells (o:=o) E;have L:f.os.a=some ⟨gq,0,none⟩:=g1;rw[HG.out] at L;simp only[Qkx,Qkz,and_true] at L;subst L;rw[F.out j] at g5;have b5:wr.cell? ⟨K,o*2+1,none⟩=some (.slice (f.os.z o).ls.a (f.os.z o).ls.n (f.os.z o).ls.c):=g5;clear g1 g4 g5 g6;by_cases c9:j<(f.os.z o).ls.n;rotate_left
 .have fl:j=(f.os.z o).ls.n:=by omega
  have fz:Hid (af (fj (dj (withHolds f h) o 2) o j) (ed s o)):=by rw[fl];exact R5 cs.out E HD.out.1 HD.out.2
  have q7:((f.os.z o).ls.n:Int)<=(j:Int):=by omega
  have p0:wr.cell? ⟨y,0,none⟩=some (.slice f.on.a f.on.n f.on.c):=g.out.box.k 0;have p2:wr.cell? ⟨y,2,none⟩=some (.slice h.a h.n h.c):=g.out.box.k 2;have p3:wr.cell? ⟨y,3,none⟩=some (.slice f.ms.a f.ms.n f.ms.c):=g.out.box.k 3;have p4:wr.cell? ⟨y,4,none⟩=some (.slice f.si.a f.si.n f.si.c):=g.out.box.k 4;have p5:wr.cell? ⟨y,5,none⟩=some (.slice f.so.a f.so.n f.so.c):=g.out.box.k 5;have p6:wr.cell? ⟨y,6,none⟩=some (.slice f.sf.a f.sf.n f.sf.c):=g.out.box.k 6;obtain⟨-,-,-,r,t⟩:=HC.out wr g.out.bel;have HZ:=qa2 r t;obtain⟨zl,bb,bm,bg,zc1,bn,zc2,cb,zc3,bj,zc4,a7,zc5,a8,bi⟩:=z7 t;clear F c8 HD r t;go_wp2_with fail;have KZ:=nl HZ.out.2 (.slice f.on.a f.on.n f.on.c) (.slice (some ⟨K,0,none⟩) f.os.n f.os.c) (.slice h.a h.n h.c) (.slice f.ms.a f.ms.n f.ms.c) (.slice f.si.a f.si.n f.si.c) (.slice f.so.a f.so.n f.so.c) (.slice f.sf.a f.sf.n f.sf.c);have di:=j7 (b:=w.heap.size+2) HZ.out.1 (by omega) (.slice f.on.a f.on.n f.on.c) (.slice (some ⟨K,0,none⟩) f.os.n f.os.c) (.slice h.a h.n h.c) (.slice f.ms.a f.ms.n f.ms.c) (.slice f.si.a f.si.n f.si.c) (.slice f.so.a f.so.n f.so.c) (.slice f.sf.a f.sf.n f.sf.c);have b8:=ai.set7 g.out.own HZ.out.2 (.slice f.on.a f.on.n f.on.c) (.slice (some ⟨K,0,none⟩) f.os.n f.os.c) (.slice h.a h.n h.c) (.slice f.ms.a f.ms.n f.ms.c) (.slice f.si.a f.si.n f.si.c) (.slice f.so.a f.so.n f.so.c) (.slice f.sf.a f.sf.n f.sf.c);unfold set7 at KZ di b8;obtain⟨f0,fd,e9,fs,em,fq,ga⟩:=df KZ;refine Xzq (v := .tuple #[.agg #[.slice f.on.a f.on.n f.on.c,.slice (some ⟨K,0,none⟩) f.os.n f.os.c,.slice h.a h.n h.c,.slice f.ms.a f.ms.n f.ms.c,.slice f.si.a f.si.n f.si.c,.slice f.so.a f.so.n f.so.c,.slice f.sf.a f.sf.n f.sf.c],.int .i64 0]) (by simp[results,results56,go_sem,f0,fd,e9,fs,em,fq,ga]) rfl ?_;refine⟨fj (dj (withHolds f h) o 2) o j,?_,b8.at,⟨λ_=>fz.out,λh=>absurd HX.out h⟩,λ_=>b8.mono eb.out,di⟩;rw[HX.out];show _=Ending.returned (.tuple #[.agg #[.slice f.on.a f.on.n f.on.c,.slice f.os.a f.os.n f.os.c,.slice h.a h.n h.c,.slice f.ms.a f.ms.n f.ms.c,.slice f.si.a f.si.n f.si.c,.slice f.so.a f.so.n f.so.c,.slice f.sf.a f.sf.n f.sf.c],.int .i64 0]);rw[HG.out]
 have q5:(0:Int)<=(j:Int):=by omega
 have q6:(j:Int)<((f.os.z o).ls.n:Int):=by omega
 have gb:j<((fj (dj (withHolds f h) o 2) o j).os.z o).ls.n:=by rw[F.out];exact c9
 obtain⟨gr,BL,f1,f2,f3,f4,f5,f6,f7,f8,f9,fb,dn,b0,bk,dh⟩:=g.out.own.lineCell (o:=o) (l:=j) E gb;rw[F.out] at f5 dn b0 bk dh;have bd:(f.os.z o).ls.a=some ⟨BL,0,none⟩:=f5;have dl:Hid (((fj (dj (withHolds f h) o 2) o j).os.z o).ls.a=some ⟨BL,0,none⟩):=by show((fj (dj (withHolds f h) o 2) o j).os.z o).ls.a=_;rw[F.out];exact bd
 have t:(yv (f.os.z o).ls j).z j=(f.os.z o).ls.z j:=if_neg (Nat.lt_irrefl _);have bf:wr.cell? ⟨BL,j*4+1,none⟩=some (.int .i64 ((f.os.z o).ls.z j).l):=by rw[<-t];exact b0
 have b9:wr.cell? ⟨BL,j*4+2,none⟩=some (.int .i64 ((f.os.z o).ls.z j).b):=by rw[<-t];exact bk
 have es:Hid (setLine (fj (dj (withHolds f h) o 2) o j) o j 3 (((f.os.z o).ls.z j).l-((f.os.z o).ls.z j).b)=fj (dj (withHolds f h) o 2) o (j+1)):=by
  have e:((dj (withHolds f h) o 2).os.z o).ls.z j=(f.os.z o).ls.z j:=by rw[vo];rfl
  have hh:=Hl (dj (withHolds f h) o 2) o j;rw[e] at hh;exact hh
 have hb:=c8.out j c9;rw[bd] at b5;have t1:=Qqq u1;have t2:=Qqq b5;have t3:=Qqq bf;have t4:=Qqq b9;clear f1 f2 f3 f4 f5 bd f6 f8 f9 fb dn b0 bf bk b9 dh t
 generalize (f.os.z o).ls.z j=Z at *
 go_wp2_with fail;clear u1 b5;refine jh [(true,[0,1,2,3,4,5,6,7,8,9,10,11,12,13,14,15,16,17,18,19,20,21,22,23,24,25,26,27,28,29],some 30)] ?_;refine⟨λQ=>∃p:Regrown,Q=grow (redrawn wr p.d) p.os,Qqx (brf.drew),λh=>(by cases h),?_⟩;simp only[du,Qyq,Xqq,Qyx,Qyz,Xqz,Xqx]
 repeat(go_big_quiet_step(fail))
 refine Qqz ?_;clear t1 t2 t3 t4;have D:Below wr.heap.size wr wr.drew:=brf.drew
 generalize wr.drew=U at *
 have bw:=g.out.own.below D;have Kj:=g.out.box.below D;have c7:=g.out.bel.trans (D.mono g.out.bel.size);have cr:=Qzx g.out.le D.size;obtain⟨Bq,am,hf,-,-,ak⟩:=bw.os.lines o E;rw[dl.out] at am;simp only[Qkx,Qkz,and_true] at am;subst am;have zl:=ak.lt;have zf:=ak.frozen (j*4+3);have zc:=ak.cell (j:=j*4+3) (by omega);have bl:=bw.setLine (o:=o) E dl.out j 3 (by decide) (Z.l-Z.b);have cp:=Kj.other (a:=⟨BL,j*4+3,none⟩) (Blk.ne2 Kj ak (by decide)) (.int .i64 (Z.l-Z.b));have db:=c7.setCell (p:=⟨BL,j*4+3,none⟩) (by show H.heap.size<=BL;omega) (.int .i64 (Z.l-Z.b));rw[es.out] at bl;have HN:Hid (de m.heap.size y H (fj (dj (withHolds f h) o 2) o (j+1)) (U.setCell ⟨BL,j*4+3,none⟩ (.int .i64 (Z.l-Z.b)))):=⟨bl,cp,db,by simpa using cr⟩;clear bw Kj c7 cr ak bl cp db D g
 generalize (ay ((fj (dj (withHolds f h) o 2) o j).os.z o).ls.n ((fj (dj (withHolds f h) o 2) o j).os.z o).ls.z).getD (j*4+3) default=VV at zc
 refine li 30 rfl ?_;go_wp2_with fail;refine NoPanic.normal ?_;go_wp2_with fail;go_roundw
 case rel=>exact⟨j+1,by omega,by go_num,HN⟩
 case measure=>simp[intOf];omega
def uw(s:St)(h:Hs)(o l b g:Nat)(n k:Int):St:=setLine (setLine (setLine (setLine (withHolds (setOut (setOn s b g ((s.on.r b).z g-n)) g (s.so.z g+n)) h) o l 0 g) o l 1 ((s.os.z o).ls.z l).l) o l 2 (((s.os.z o).ls.z l).b+n)) o l 3 (((s.os.z o).ls.z l).n+k-n)
theorem Wz(s:St)(h:Hs)(o l b g:Nat)(n k:Int)(i j:Nat):((uw s h o l b g n k).os.z i).ls.z j=if i=o/\j=l then ⟨g,((s.os.z o).ls.z l).l,((s.os.z o).ls.z l).b+n,((s.os.z o).ls.z l).n+k-n⟩ else(s.os.z i).ls.z j:=by
 unfold uw;rw[pn,pn,pn,pn];by_cases c:i=o/\j=l
 .rw[if_pos c,if_pos c,if_pos c,if_pos c,if_pos c]
  rfl
 rw[if_neg c,if_neg c,if_neg c,if_neg c,if_neg c]
 rfl
theorem Pd(s:St)(h:Hs)(o l b g:Nat)(n k:Int)(i:Nat):((uw s h o l b g n k).os.z i).k=(s.os.z i).k/\((uw s h o l b g n k).os.z i).ls.n=(s.os.z i).ls.n/\((uw s h o l b g n k).os.z i).ls.a=(s.os.z i).ls.a/\((uw s h o l b g n k).os.z i).ls.c=(s.os.z i).ls.c:=by
 unfold uw;rw[sy,sy,sy,sy,(dr i).1,(dr i).1,(dr i).1,(dr i).1,(dr i).2.1,(dr i).2.1,(dr i).2.1,(dr i).2.1,(dr i).2.2,(dr i).2.2,(dr i).2.2,(dr i).2.2];exact⟨rfl,rfl,rfl,rfl⟩
theorem Xa(e:af x s){n:Int}(a:oy p s o l b){h:Hs}(g:h.n=(mi s.hs o l b).n)(f:∀j,j<h.n->h.z j=(mi s.hs o l b).z j):af (uw x h o l b (bu s o l) n (dw s o l b)) (cn s o l b n):=by
 have w:=Ht (n:=n) e a g f;refine⟨w.on,⟨w.os.1,λi hi => ?_⟩,⟨g,f⟩,w.ms,w.si,w.so,w.sf⟩;have d:i<x.os.n:=hi;have k:=e.os.2 i d;have hs:i<s.os.n:=by rw[<-e.os.1];exact d
 rw[(Pd x h o l b (bu s o l) n (dw s o l b) i).1,(Pd x h o l b (bu s o l) n (dw s o l b) i).2.1,(ny s o l b n i).1,(ny s o l b n i).2];refine⟨k.1,k.2.1,λj m => ?_⟩;rw[Wz,ue];by_cases c:i=o/\j=l
 .rw[if_pos c,if_pos c,e.line a.on a.ln,<-a.good.1]
  congr 1
  omega
 rw[if_neg c,if_neg c];exact k.2.2 j m
theorem l6.got{but:Int}{n:Int}(T:l6 p but y i j n x)(b:o<y.os.n):ko x o=ko y o:=by
 have a:ep y i j n (Tk.go (avT y i j) n (fg p but)) x:=T;have k:=a.os.2 o (by rw[a.os.1];exact b);unfold ko;rw[k.2.1]
 congr 1
 refine pe λq c => ?_;rw[a.line b c]
 split<;>rfl
theorem Q2(p:Pl)(s:St)(order line bin n:Int)(w:World)(hp:p.At w)(hs:s.At w):
  Calls prog 57 #[p.val,s.val,.int .i64 order,.int .i64 line,.int .i64 bin,.int .i64 n] w λe S=>∃x:St,e = .returned (.tuple #[x.val,.int .i64 (jd p s order line bin n)])/\x.At S/\ij (jd p s order line bin n) (sj p s order.toNat line.toNat bin.toNat n) x/\(jd p s order line bin n=0->ai w.heap.size S x)/\Below w.heap.size w S:=by
 obtain⟨F,hW,kf,X0,Z0⟩:=Cd w p s;have HC:=Bb hp hs kf X0 Z0;have HW:=hid hW;have leb:=hp.leb;have fr:=hp.capb;have les:=hp.les;have ft:=hp.caps;have capb:=fr;have caps:=ft;have k8:=Z0.lt;unfold maxLen at capb caps;have mj:=hs.os.le;have i9:=hs.os.cap;unfold maxLen at i9;clear hW X0 Z0 hp hs;unfold Pl.val St.val;go_enter func57,ntmps57;go_wp2_with fail;rw[HW.out];obtain⟨X,L,B,D,J⟩:=HC.out F brf;refine(ky p s F L B).mono ?_;rintro e w1 ⟨rfl,hB⟩;clear X L B D J HW;obtain⟨⟨⟨l1,d0,d1⟩,l2,c0,c1,c2,c3,c4,c5,c6⟩,L,B,D,J⟩:=HC.out w1 hB;by_cases h0:ag p s=0;rotate_left
 .have HX:Hid (jd p s order line bin n=ag p s):=zz h0;have jx:Hid (¬jd p s order line bin n=0):=by show ¬_;rw[zz h0];exact h0
  have g0:(ag p s !=0)=true:=by simpa using h0
  clear h0;clear L B;obtain⟨zl,ad,U,Y,zc1,ak,zc2,ac,zc3,ba,zc4,bc,zc5,aw,be⟩:=z7 J;go_wp2_with fail;exact ip results57 J D (by omega) HX.out (λh=>jx.out (HX.out.trans h)) rfl rfl rfl
 have H0:Hid (ag p s=0):=h0;have HR:Hid (ar p s):=dp h0;rw[h0];clear h0;have gk:Hid (s.hs.At w1):=B.hs;clear L B D J;go_wp2_with fail;refine(Sv s.hs order line bin w1 gk.out).mono ?_;rintro e H ⟨rfl,gz⟩;clear gk l1 d0 d1 l2 c0 c1 c2 c3 c4 c5 c6;have bb:=hB.trans (gz.mono hB.size);obtain⟨⟨⟨l1,d0,d1⟩,l2,c0,c1,c2,c3,c4,c5,c6⟩,L,B,D,J⟩:=HC.out H bb;clear gz hB;by_cases h1:keptV s.hs.n s.hs.z order line bin=0
 .have HX:Hid (jd p s order line bin n=4):=Hr H0.out h1;have el:(keptV s.hs.n s.hs.z order line bin==0)=true:=by simpa using h1
  generalize keptV s.hs.n s.hs.z order line bin=KV at *
  clear h1;clear L B;obtain⟨zl,ad,U,Y,zc1,ak,zc2,ac,zc3,ba,zc4,bc,zc5,aw,be⟩:=z7 J;go_wp2_with fail;exact ip results57 J D (by omega) HX.out (by decide) rfl rfl rfl
 have el:(keptV s.hs.n s.hs.z order line bin==0)=false:=by simpa using h1
 cases h2:inB n 0 (keptV s.hs.n s.hs.z order line bin)
 .have HX:Hid (jd p s order line bin n=3):=F2 H0.out h1 h2;clear h1
  generalize keptV s.hs.n s.hs.z order line bin=KV at *
  clear L B;obtain⟨zl,ad,U,Y,zc1,ak,zc2,ac,zc3,ba,zc4,bc,zc5,aw,be⟩:=z7 J;go_wp2_with(go_at_call 23;refine ah (cg _ _ _ _) ?_);exact ip results57 J D (by omega) HX.out (by decide) rfl rfl rfl
 obtain⟨o,l,b,rfl,rfl,rfl,hi⟩:=Nr HR.out h1;have HI:Hid (oy p s o l b):=hi;have gd:=HI.out.good;have bd:=HI.out.bd;have nn:=au h2;have ho:=HI.out.on;have hl:=HI.out.ln;have hb:=HI.out.bn;obtain⟨g,hg⟩:∃g,bu s o l=g:=⟨_,rfl⟩;have HG:Hid (bu s o l=g):=hg;rw[hg] at gd;have gl:=gd.2;obtain⟨bo,oo,dx,i5,z0,z1,cr⟩:=B.os.ods o ho;obtain⟨bl,ol,gb,jl,y0,y1,y2,y3⟩:=cr.hds l hl;have ll:=cr.le;have lc:=cr.cap;unfold maxLen at lc;have son:=HR.out.fm.son;obtain⟨bs,os,ds,jj,j4⟩:=B.so.ints g (by omega);have l0:=B.so.le;have jc:=B.so.cap;unfold maxLen at jc;have hc:Hid (s.so.a=some ⟨bs,os,none⟩):=ds;have fy:Hid (s.os.a=some ⟨bo,oo,none⟩):=dx;rw[gd.1] at y0;rw[dx] at c1;rw[gb] at z1;rw[ds] at c5;have q0:(0:Int)<=(o:Int):=by omega
 have q1:(o:Int)<(s.os.n:Int):=by omega
 have q2:(0:Int)<=(l:Int):=by omega
 have q3:(l:Int)<((s.os.z o).ls.n:Int):=by omega
 have q4:(0:Int)<=(g:Int):=by omega
 have sg:g<s.so.n:=by omega
 have q5:(g:Int)<(s.so.n:Int):=by omega
 have sob:=HR.out.fm.sob g gl;have H1:Hid (¬dw s o l b=0):=h1;have H2:Hid (inB n 0 (dw s o l b)=true):=h2;have ks:1<=keptV s.hs.n s.hs.z o l b/\keptV s.hs.n s.hs.z o l b<=200:=⟨bd.1,bd.2.1⟩;clear dx gb cr ds y1 y2 y3 z0 gd bd hi hg h1 son;by_cases h3:1048576<s.so.z g+n
 .have HX:Hid (jd p s o l b n=2):=Hq H0.out H1.out H2.out (by show 1048576<s.so.z (bu s o l)+n;rw[HG.out];exact h3)
  generalize keptV s.hs.n s.hs.z o l b=KV at *
  clear L B;obtain⟨zl,ad,U,Y,zc1,ak,zc2,ac,zc3,ba,zc4,bc,zc5,aw,be⟩:=z7 J;go_wp2_with(go_at_call 23;refine ah (cg _ _ _ _) ?_);exact ip results57 J D (by omega) HX.out (by decide) rfl rfl rfl
 have HX:Hid (jd p s o l b n=0):=S6 H0.out H1.out H2.out (by show ¬1048576<s.so.z (bu s o l)+n;rw[HG.out];exact h3);have cs:Hid (lu p s o l b n):=by
  have h:=N4 HX.out;obtain⟨-,o',l',b',e1,e2,e3,h⟩:=h;have b6:o'=o:=by omega
  have j3:l'=l:=by omega
  have kp:b'=b:=by omega
  rw[b6,j3,kp] at h;exact h
 have d7:Hid (w.heap.size<=H.heap.size):=D.size;have fv:Hid (Calls prog 20 #[s.val] H λe S=>∃s':St,e = .returned s'.val/\af s' s/\ai H.heap.size S s'/\Below H.heap.size H S):=pd p s H B HR.out.fm;obtain⟨K,hK⟩:∃K,keptV s.hs.n s.hs.z o l b=K:=⟨_,rfl⟩;have HK:Hid (dw s o l b=K):=hK;rw[hK] at ks h2 nn el ⊢;clear L B D J hK;go_wp2_with(go_at_call 23;refine ah (cg _ _ _ _) ?_);rw[<-fy.out,<-hc.out];refine Calls.mono fv.out ?_;rintro e w4 ⟨i,rfl,E,e9,c8⟩;clear fv l1 d0 d1 l2 c0 c1 c2 c3 c4 c5 c6 z1 i5 jl jj y0 j4 h2 fy hc el;have an:o<i.os.n:=by rw[E.os.1];exact ho
 have xk:=E.os.2 o an;have i8:l<(i.os.z o).ls.n:=by rw[xk.2.1];exact hl
 have c7:b<i.on.n:=by rw[E.on.1,HR.out.fm.sh.n];exact hb
 have gh:g<(i.on.r b).n:=by rw[(E.on.2 b c7).1,HR.out.fm.sh.len b (by rw[HR.out.fm.sh.n];exact hb)];exact gl
 have d2:g<i.so.n:=by rw[E.so.1];exact sg
 have P:Hid (af i s):=E;have gs:Hid ((0<=(i.on.r b).z g/\(i.on.r b).z g<=200)/\(0<=i.so.z g/\i.so.z g<=1048576)/\(0<=((i.os.z o).ls.z l).b/\((i.os.z o).ls.z l).b<=200)/\0<=((i.os.z o).ls.z l).n/\((i.os.z o).ls.z l).n<=200):=by
  have f:=HR.out.fm;have bl:=er (f.line o ho l hl);refine⟨?_,?_,?_⟩
  .rw[E.num f hb gl];exact f.sh.num b (by rw[f.sh.n];exact hb) g gl
  .rw[E.so.2 g d2];exact f.sob g gl
  rw[E.line ho hl];omega
 have v0:=gs.out;obtain⟨W5,fz,ci,K5⟩:=ab7 w4 i;have gn:=hid fz;have cl:=c8.trans (ci.mono c8.size);have gu:=bb.trans (cl.mono bb.size);have A1:F.heap.size<=H.heap.size:=bb.size;have A3:H.heap.size<=w4.heap.size:=c8.size;have b7:Hid (de H.heap.size w4.heap.size F i W5):=⟨ai.below e9 ci,K5,gu,by have:=cl.size;omega⟩;clear fz e9 K5 c8 ci cl gu E bb xk gs;simp only[St.val];go_wp2_with fail;rw[gn.out];clear gn
 generalize w4.heap.size=q at *
 -- what lies there
 obtain⟨g0,G,a1,a2,a3,a4,a5,a6,a7,a8,a9,i3,mh,j5⟩:=b7.out.own.onCell c7 gh;have u0:W5.cell? ⟨q,0,none⟩=some (.slice i.on.a i.on.n i.on.c):=b7.out.box.k 0;have aj:=b7.out.box.lt;rw[a1] at u0;unfold maxLen at a8 j5;have r0:(0:Int)<=(b:Int):=by omega
 have r1:(b:Int)<(i.on.n:Int):=by omega
 have r2:(g:Int)<((i.on.r b).n:Int):=by omega
 have eo:Hid ((i.on.r b).a=some ⟨G,0,none⟩):=a4;clear a1 a4 i3;have jf:=Qqq u0;have iz:=Qqq a3;have kr:=Qqq a9;go_wp2_with fail;refine jh [(true,[0,1,2,3,4,5,6,7,8,9,10,11,12,13,14,15,16],some 17)] ?_;refine⟨λS=>∃p:Regrown,S=grow (redrawn W5 p.d) p.os,Qqx (brf.drew),λh=>(by cases h),?_⟩;simp only[du,Qyq,Xqq,Qyx,Qyz,Xqz,Xqx]
 repeat(go_big_quiet_step(fail))
 refine Qqz ?_;clear jf iz kr u0 a3 a9;have am:Below W5.heap.size W5 W5.drew:=brf.drew
 generalize W5.drew=wj at *
 have m:=b7.out.below am;obtain⟨Gq,b1,b2,b3,b4,b5⟩:=m.own.rows b c7;rw[eo.out] at b1;simp only[Qkx,Qkz,and_true] at b1;subst b1;have zl:=b5.lt;have zf:=b5.frozen g;have zc:=b5.cell (j:=g) gh;have br:Hid (de H.heap.size q F (setOn i b g ((i.on.r b).z g-n)) (wj.setCell ⟨G,g,none⟩ (.int .i64 ((i.on.r b).z g-n)))):=⟨m.own.setOn (b:=b) c7 eo.out g _,m.box.other (a:=⟨G,g,none⟩) (Blk.ne2 m.box b5 (by decide)) _,m.bel.setCell (p:=⟨G,g,none⟩) (by show F.heap.size<=G;omega) _,by have:=m.le;simpa using this⟩;clear m b2 b3 b4 b5 am b7 eo a2 a5 a6 aj;refine li 17 rfl ?_;go_wp2_with fail;refine NoPanic.normal ?_;clear zl zf zc
 generalize wj.setCell ⟨G,g,none⟩ (.int .i64 ((i.on.r b).z g-n))=W6 at *
 clear wj
 -- what went
 obtain⟨GS,e1,e2,e3,e4,e5,e6,e7⟩:=br.out.own.so.cellAt (g:=g) d2;have b6:i.so.a=some ⟨GS,0,none⟩:=e1;have u5:W6.cell? ⟨q,5,none⟩=some (.slice i.so.a i.so.n i.so.c):=br.out.box.k 5;have aj:=br.out.box.lt;rw[b6] at u5;have l5:i.so.n<=i.so.c:=e4;have jw:i.so.c<=maxLen:=e5;have gm:W6.cell? ⟨GS,g,none⟩=some (.int .i64 (i.so.z g)):=e6;unfold maxLen at jw;have r3:(g:Int)<(i.so.n:Int):=by omega
 have ec:Hid (i.so.a=some ⟨GS,0,none⟩):=b6;clear e1 b6 e4 e5 e6 e7;have ke:=Qqq u5;have kw:=Qqq gm;go_wp2_with fail;refine jh [(true,[0,1,2,3,4,5,6,7,8,9,10],some 11)] ?_;refine⟨λS=>∃p:Regrown,S=grow (redrawn W6 p.d) p.os,Qqx (brf.drew),λh=>(by cases h),?_⟩;simp only[du,Qyq,Xqq,Qyx,Qyz,Xqz,Xqx]
 repeat(go_big_quiet_step(fail))
 refine Qqz ?_;clear ke kw u5 gm;have am:Below W6.heap.size W6 W6.drew:=brf.drew
 generalize W6.drew=wj at *
 have m:=br.out.below am;obtain⟨Gq,b1,b2,b3,b4,b5⟩:=m.own.so;have em:i.so.a=some ⟨Gq,0,none⟩:=b1;rw[ec.out] at em;simp only[Qkx,Qkz,and_true] at em;subst em;have zl:=b5.lt;have zf:=b5.frozen g;have zc:wj.cell? ⟨GS,g,none⟩=some (.int .i64 (i.so.z g)):=b5.cell (j:=g) d2;have bk:Hid (de H.heap.size q F (setOut (setOn i b g ((i.on.r b).z g-n)) g (i.so.z g+n)) (wj.setCell ⟨GS,g,none⟩ (.int .i64 (i.so.z g+n)))):=⟨m.own.setOut ec.out g _,m.box.other (a:=⟨GS,g,none⟩) (Blk.ne2 m.box b5 (by decide)) _,m.bel.setCell (p:=⟨GS,g,none⟩) (by show F.heap.size<=GS;omega) _,by have:=m.le;simpa using this⟩;clear m b1 b2 b3 b4 b5 am br ec e2 e3 aj;refine li 11 rfl ?_;go_wp2_with fail;refine NoPanic.normal ?_;clear zl zf;have wl:=bk.out.box.lt;have u2:(wj.setCell ⟨GS,g,none⟩ (.int .i64 (i.so.z g+n))).cell? ⟨q,2,none⟩=some (.slice i.hs.a i.hs.n i.hs.c):=bk.out.box.k 2
 generalize wj.setCell ⟨GS,g,none⟩ (.int .i64 (i.so.z g+n))=W7 at *
 clear zc
 -- the hold
 go_wp2_with fail;clear u2 wl;have gg:Hid (Calls prog 119 #[.slice i.hs.a i.hs.n i.hs.c,.int .i64 (o:Int),.int .i64 (l:Int),.int .i64 (b:Int),.int .i64 0] W7 λe S=>∃s':Hs,e = .returned s'.val/\cw W7.heap.size 61 S s'/\(s'.n=(mi s.hs o l b).n/\∀j,j<s'.n->s'.z j=(mi s.hs o l b).z j)/\Below W7.heap.size W7 S):=by
  have cq:ax i.hs.n (db i.hs.z)=false:=(P.out.formed HR.out.fm).hold;have kx:¬keptV i.hs.n i.hs.z o l b=0:=by
   rw[P.out.hs.1,zy λj hj=>P.out.hs.2 j (by rw[P.out.hs.1];exact hj)];exact H1.out
  obtain⟨p1,p2,p3,p4,p5⟩:=tn cq kx;have fx:=cd cq _ p1;have hk:=Ff (n:=0) p2;have h:=Ol i.hs ⟨o,l,b,0⟩ (jp i.hs.n i.hs.z o l b) W7 bk.out.own.hs.at cq (Zn p2 fx) p1 hk rfl (λj hj=>by rw[<-hk];exact p4 j hj) (λj hj jq=>by rw[<-hk];exact p5 j hj jq);refine Calls.mono h λe S => ?_;rintro⟨s',rfl,q1,q2,q3,q4⟩;have ei:jp i.hs.n i.hs.z o l b=jp s.hs.n s.hs.z o l b:=by
   obtain⟨s1,s2,-⟩:=tn HR.out.fm.hold H1.out;exact((o6 cq (k:=jp s.hs.n s.hs.z o l b) (by rw[P.out.hs.1];exact s1) (by rw[P.out.hs.2 _ (by rw[P.out.hs.1];exact s1)];exact s2)).2)
  refine⟨s',rfl,q1,⟨by rw[q2,P.out.hs.1];rfl,λj hj => ?_⟩,q4⟩;rw[q3,ei];show fw i.hs.z _ j=fw s.hs.z _ j;have mc:j<i.hs.n-1:=by rw[<-q2];exact hj
  unfold fw
  split
  .exact P.out.hs.2 j (by omega)
  exact P.out.hs.2 (j+1) (by omega)
 refine Calls.mono gg.out ?_;rintro e Q ⟨hd,rfl,g8,gx,bm⟩;have hh:Hid (hd.n=(mi s.hs o l b).n/\∀j,j<hd.n->hd.z j=(mi s.hs o l b).z j):=gx;have m:=bk.out.below bm;have zl:=m.box.lt;have zf:=m.box.frozen 2;have zc:=m.box.k 2;have az:Hid (de H.heap.size q F (withHolds (setOut (setOn i b g ((i.on.r b).z g-n)) g (i.so.z g+n)) hd) (Q.setCell ⟨q,2,none⟩ (.slice hd.a hd.n hd.c))):=⟨(m.own.withHolds (g8.mono bk.out.le)).box m.box 2 _,(m.box.set 2 (.slice hd.a hd.n hd.c)).congr (λj hj=>by match j,hj with|0,_=>rfl|1,_=>rfl|2,_=>rfl|3,_=>rfl|4,_=>rfl|5,_=>rfl|6,_=>rfl),m.bel.setCell (p:=⟨q,2,none⟩) (by show F.heap.size<=q;omega) _,by have:=m.le;simpa using this⟩;clear m g8 gx bm gg bk
 -- the line
 obtain⟨gO,u,f1,f2,f3,f4,f5,f6,f7,f8,f9,eu,cy,b0,bz,cx⟩:=az.out.own.lineCell (o:=o) (l:=l) an i8;have d6:i.os.a=some ⟨gO,0,none⟩:=f1;have ge:Hid (i.os.a=some ⟨gO,0,none⟩):=d6;have bw:Hid ((i.os.z o).ls.a=some ⟨u,0,none⟩):=f5;have u1:(Q.setCell ⟨q,2,none⟩ (.slice hd.a hd.n hd.c)).cell? ⟨q,1,none⟩=some (.slice i.os.a i.os.n i.os.c):=az.out.box.k 1;rw[d6] at u1;have gc:(Q.setCell ⟨q,2,none⟩ (.slice hd.a hd.n hd.c)).cell? ⟨gO,o*2+1,none⟩=some (.slice (some ⟨u,0,none⟩) (i.os.z o).ls.n (i.os.z o).ls.c):=f4;have l7:(i.os.z o).ls.n<=(i.os.z o).ls.c:=f8;have ka:(i.os.z o).ls.c<=maxLen:=f9;have hn:(Q.setCell ⟨q,2,none⟩ (.slice hd.a hd.n hd.c)).cell? ⟨u,l*4,none⟩=some (.int .i64 ((i.os.z o).ls.z l).o):=cy;have h6:(Q.setCell ⟨q,2,none⟩ (.slice hd.a hd.n hd.c)).cell? ⟨u,l*4+1,none⟩=some (.int .i64 ((i.os.z o).ls.z l).l):=b0;have ie:(Q.setCell ⟨q,2,none⟩ (.slice hd.a hd.n hd.c)).cell? ⟨u,l*4+2,none⟩=some (.int .i64 ((i.os.z o).ls.z l).b):=bz;have it:(Q.setCell ⟨q,2,none⟩ (.slice hd.a hd.n hd.c)).cell? ⟨u,l*4+3,none⟩=some (.int .i64 ((i.os.z o).ls.z l).n):=cx;have l4:i.os.n<=i.os.c:=az.out.own.os.le;have j9:i.os.c<=maxLen:=az.out.own.os.cap;unfold maxLen at ka j9;have aj:=az.out.box.lt;have r4:(o:Int)<(i.os.n:Int):=by omega
 have r5:(l:Int)<((i.os.z o).ls.n:Int):=by omega
 clear f1 d6 f2 f4 f5 f6 f8 f9 eu cy b0 bz cx;obtain⟨W9,he,bf,K9⟩:∃W,(Q.setCell ⟨q,2,none⟩ (.slice hd.a hd.n hd.c)).alloc (.cells #[.int .i64 ((i.os.z o).ls.z l).o,.int .i64 ((i.os.z o).ls.z l).l,.int .i64 ((i.os.z o).ls.z l).b,.int .i64 ((i.os.z o).ls.z l).n] 59)=W/\Below (Q.setCell ⟨q,2,none⟩ (.slice hd.a hd.n hd.c)).heap.size (Q.setCell ⟨q,2,none⟩ (.slice hd.a hd.n hd.c)) W/\Blk W (Q.setCell ⟨q,2,none⟩ (.slice hd.a hd.n hd.c)).heap.size 59 4 (λj=>(#[.int .i64 ((i.os.z o).ls.z l).o,.int .i64 ((i.os.z o).ls.z l).l,.int .i64 ((i.os.z o).ls.z l).b,.int .i64 ((i.os.z o).ls.z l).n]:Array Value).getD j default):=⟨_,rfl,brf.alloc nlr _,Blk.mk' rfl rfl⟩;have g7:Hid ((Q.setCell ⟨q,2,none⟩ (.slice hd.a hd.n hd.c)).alloc (.cells #[.int .i64 ((i.os.z o).ls.z l).o,.int .i64 ((i.os.z o).ls.z l).l,.int .i64 ((i.os.z o).ls.z l).b,.int .i64 ((i.os.z o).ls.z l).n] 59)=W9):=he;have cu:Hid (de H.heap.size q F (withHolds (setOut (setOn i b g ((i.on.r b).z g-n)) g (i.so.z g+n)) hd) W9):=az.out.below bf;have dq:W9.cell? ⟨q,1,none⟩=some (.slice i.os.a i.os.n i.os.c):=cu.out.box.k 1;have h9:=cu.out.box.lt;rw[ge.out] at dq;have ku:gO<W9.heap.size:=Xzx f3 bf.size;have j6:u<W9.heap.size:=Xzx f7 bf.size;have f0:W9.cell? ⟨gO,o*2+1,none⟩=some (.slice (some ⟨u,0,none⟩) (i.os.z o).ls.n (i.os.z o).ls.c):=(bf.cell (p:=⟨gO,o*2+1,none⟩) f3).trans gc;have fa:W9.cell? ⟨(Q.setCell ⟨q,2,none⟩ (.slice hd.a hd.n hd.c)).heap.size,1,none⟩=some (.int .i64 ((i.os.z o).ls.z l).l):=K9.k 1;have en:W9.cell? ⟨(Q.setCell ⟨q,2,none⟩ (.slice hd.a hd.n hd.c)).heap.size,2,none⟩=some (.int .i64 ((i.os.z o).ls.z l).b):=K9.k 2;have ex:W9.cell? ⟨(Q.setCell ⟨q,2,none⟩ (.slice hd.a hd.n hd.c)).heap.size,3,none⟩=some (.int .i64 ((i.os.z o).ls.z l).n):=K9.k 3;have gy:=K9.lt;clear he bf K9;simp only[Hs.val];go_wp2_with fail;rw[g7.out];clear u1 gc hn h6 ie it f3 f7 aj zl zf zc g7 az;have dl:(Q.setCell ⟨q,2,none⟩ (.slice hd.a hd.n hd.c)).heap.size=Q.heap.size:=by simp
 rw[dl] at fa en ex gy
 try rw[dl]
 clear dl;have h5:=Qqq dq;have iq:=Qqq f0;have iu:=Qqq fa;have hr:=Qqq en;have ib:=Qqq ex;go_wp2_with fail;refine jh [(true,[0,1,2,3,4,5,6,7,8,9,10,11,12,13,14,15,16,17,18,19,20,21],some 22)] ?_;refine⟨λS=>∃p:Regrown,S=grow (redrawn W9 p.d) p.os,Qqx (brf.drew),λh=>(by cases h),?_⟩;simp only[du,Qyq,Xqq,Qyx,Qyz,Xqz,Xqx]
 repeat(go_big_quiet_step(fail))
 refine Qqz ?_;clear h5 iq iu hr ib dq f0 fa en ex gy;have am:Below W9.heap.size W9 W9.drew:=brf.drew
 generalize W9.drew=wj at *
 have m:=cu.out.below am;obtain⟨Bq,ek,kk,-,-,M⟩:=m.own.os.lines o an;have cf:(i.os.z o).ls.a=some ⟨Bq,0,none⟩:=ek;rw[bw.out] at cf;simp only[Qkx,Qkz,and_true] at cf;subst cf;have zl:=M.lt;have ad:=M.frozen (l*4);have Y:=M.frozen (l*4+1);have ak:=M.frozen (l*4+2);have ac:=M.frozen (l*4+3);have i4:l*4+3<(i.os.z o).ls.n*4:=by omega
 have U:=M.cell (j:=l*4) (by show l*4<(i.os.z o).ls.n*4;omega);have zc1:=M.cell (j:=l*4+1) (by show l*4+1<(i.os.z o).ls.n*4;omega);have zc2:=M.cell (j:=l*4+2) (by show l*4+2<(i.os.z o).ls.n*4;omega);have zc3:=M.cell (j:=l*4+3) i4;have s1:=m.own.setLine (o:=o) an bw.out l 0 (by decide) (g:Int);have s2:=s1.setLine (o:=o) an (by rw[(dr o).2.1];exact bw.out) l 1 (by decide) ((i.os.z o).ls.z l).l;have s3:=s2.setLine (o:=o) an (by rw[(dr o).2.1,(dr o).2.1];exact bw.out) l 2 (by decide) (((i.os.z o).ls.z l).b+n);have s4:=s3.setLine (o:=o) an (by rw[(dr o).2.1,(dr o).2.1,(dr o).2.1];exact bw.out) l 3 (by decide) (((i.os.z o).ls.z l).n+K-n);have cv:q≠u:=Blk.ne2 m.box M (by decide);have V:Hid (de H.heap.size q F (uw i hd o l b g n K) ((((wj.setCell ⟨u,l*4,none⟩ (.int .i64 (g:Int))).setCell ⟨u,l*4+1,none⟩ (.int .i64 ((i.os.z o).ls.z l).l)).setCell ⟨u,l*4+2,none⟩ (.int .i64 (((i.os.z o).ls.z l).b+n))).setCell ⟨u,l*4+3,none⟩ (.int .i64 (((i.os.z o).ls.z l).n+K-n)))):=⟨s4,(((m.box.other (a:=⟨u,l*4,none⟩) cv _).other (a:=⟨u,l*4+1,none⟩) cv _).other (a:=⟨u,l*4+2,none⟩) cv _).other (a:=⟨u,l*4+3,none⟩) cv _,(((m.bel.setCell (p:=⟨u,l*4,none⟩) (by show F.heap.size<=u;omega) _).setCell (p:=⟨u,l*4+1,none⟩) (by show F.heap.size<=u;omega) _).setCell (p:=⟨u,l*4+2,none⟩) (by show F.heap.size<=u;omega) _).setCell (p:=⟨u,l*4+3,none⟩) (by show F.heap.size<=u;omega) _,by have:=m.le;simpa using this⟩
 generalize (ay _ _).getD (l*4) default=md at U
 generalize (ay _ _).getD (l*4+1) default=mb at zc1
 generalize (ay _ _).getD (l*4+2) default=l3 at zc2
 generalize (ay _ _).getD (l*4+3) default=mg at zc3
 have ct:Hid (af (uw i hd o l b g n K) (cn s o l b n)):=by have h:=Xa (n:=n) P.out HI.out hh.out.1 hh.out.2;rw[HG.out,HK.out] at h;exact h
 have l9:Hid ((uw i hd o l b g n K).os.a=some ⟨gO,0,none⟩):=ge.out;have gf:Hid (i6 p (uw i hd o l b g n K) o l (K-n)):=by have h:=i6.same cs.out.takeIn ct.out;rw[HK.out] at h;exact h
 have gw:o<(uw i hd o l b g n K).os.n:=an;have hm:((uw i hd o l b g n K).os.z o).ls.n=(i.os.z o).ls.n:=(Pd i hd o l b g n K o).2.1;have kt:Hid (((uw i hd o l b g n K).os.z o).ls.n=(i.os.z o).ls.n):=hm;obtain⟨⟨⟨l1,d0,d1⟩,l2,c0,c1,c2,c3,c4,c5,c6⟩,L,B,D,J⟩:=HC.out _ V.out.bel;obtain⟨m1,p0,p1,p2,p3,p4,p5,p6⟩:=Boxed.of V.out.box;have gp:Hid (p.At ((((wj.setCell ⟨u,l*4,none⟩ (.int .i64 (g:Int))).setCell ⟨u,l*4+1,none⟩ (.int .i64 ((i.os.z o).ls.z l).l)).setCell ⟨u,l*4+2,none⟩ (.int .i64 (((i.os.z o).ls.z l).b+n))).setCell ⟨u,l*4+3,none⟩ (.int .i64 (((i.os.z o).ls.z l).n+K-n)))):=L;clear m ek kk M s1 s2 s3 s4 am cu ku j6 h9 l2 c0 c1 c2 c3 c4 c5 c6 L B D J hm;refine li 22 rfl ?_;go_wp2_with fail;refine NoPanic.normal ?_;clear zl ad Y ak ac U zc1 zc2 zc3
 generalize ((((wj.setCell ⟨u,l*4,none⟩ (.int .i64 (g:Int))).setCell ⟨u,l*4+1,none⟩ (.int .i64 ((i.os.z o).ls.z l).l)).setCell ⟨u,l*4+2,none⟩ (.int .i64 (((i.os.z o).ls.z l).b+n))).setCell ⟨u,l*4+3,none⟩ (.int .i64 (((i.os.z o).ls.z l).n+K-n)))=jo at *
 generalize uw i hd o l b g n K=y at *
 go_wp2_with fail;clear l1 d0 d1 m1 p0 p1 p2 p3 p4 p5 p6;refine(Ml p y o l H.heap.size (K-n) b jo gp.out V.out.own V.out.le gf.out).mono ?_;rintro e bx ⟨x,rfl,T,gj,bm,hf⟩;have HT:Hid (l6 p b y o l (K-n) x):=T;have dn:Hid (Blk bx q 31 7 (λj=>y.cells.getD j default)):=hf _ _ _ _ (by decide) V.out.box;have kj:Hid (ai H.heap.size bx x):=gj;have jr:Hid (Below F.heap.size F bx):=V.out.bel.trans (bm.mono A1);have kd:Hid (H.heap.size<=bx.heap.size):=Qzx V.out.le bm.size;have bv:o<x.os.n:=by rw[T.os.1];exact gw
 have ma:Hid ((x.os.z o).ls.n=(i.os.z o).ls.n):=(T.os.2 o bv).2.1.trans kt.out;have gv:=dn.out;obtain⟨zl,ad,U,Y,zc1,ak,zc2,ac,zc3,ba,zc4,bc,zc5,aw,be⟩:=z7 gv;clear T gj bm hf gp gv
 generalize (Tk.go (avT y o l) (K-n) (fg p b)).left=LL at *
 have HN:Hid (de H.heap.size q F x (set7 bx q (.slice x.on.a x.on.n x.on.c) (.slice x.os.a x.os.n x.os.c) (.slice x.hs.a x.hs.n x.hs.c) (.slice x.ms.a x.ms.n x.ms.c) (.slice x.si.a x.si.n x.si.c) (.slice x.so.a x.so.n x.so.c) (.slice x.sf.a x.sf.n x.sf.c))):=by
  have K:=s7b dn.out x;have hb:=s7w (b:=q) jr.out (Qzx A1 A3) x;exact⟨s7o kj.out dn.out x,K.congr (λj hj=>by match j,hj with|0,_=>rfl|1,_=>rfl|2,_=>rfl|3,_=>rfl|4,_=>rfl|5,_=>rfl|6,_=>rfl),hb,by have:=kd.out;simpa[set7] using this⟩
 simp only[St.val];go_wp2_with fail;clear zl ad Y ak ac ba bc aw U zc1 zc2 zc3 zc4 zc5 be;unfold set7 at HN
 go_loopw [19,20] (λav kv wk=>∃k:Nat,k<=(x.os.z o).ls.n/\kv = .int .i64 k/\av = .bool (!ax k (λj=>jy ((x.os.z o).ls.z j)))/\Hid (de H.heap.size q F x wk)) (λ_ kv _=>(x.os.z o).ls.n-(intOf kv).toNat)
 case atStart=>exact⟨0,Qxz _,rfl,rfl,HN⟩
 clear HN;obtain⟨k,hk,rfl,rfl,t⟩:=hrel;obtain⟨gX,g1,g2,g3,g4,g5,g6⟩:=t.out.own.orderCells (o:=o) bv;have u1:wr.cell? ⟨q,1,none⟩=some (.slice x.os.a x.os.n x.os.c):=t.out.box.k 1;have aj:=t.out.box.lt;rw[g1] at u1;have cz:Hid (x.os.a=some ⟨gX,0,none⟩):=g1;have mf:x.os.n<=x.os.c:=t.out.own.os.le;have jb:x.os.c<=maxLen:=t.out.own.os.cap;obtain⟨_,_,_,_,_,_,ez⟩:=t.out.own.at.os.ods o bv;have l8:=ez.le;have js:=ez.cap;unfold maxLen at jb js;have r6:(o:Int)<(x.os.n:Int):=by omega
 clear g1 ez;by_cases jt:k<(x.os.z o).ls.n
 .have q6:(0:Int)<=(k:Int):=by omega
  have q7:(k:Int)<((x.os.z o).ls.n:Int):=by omega
  obtain⟨gr,BX,f1,f2,f3,f4,f5,f6,f7,f8,f9,eu,cy,b0,bz,cx⟩:=t.out.own.lineCell (o:=o) (l:=k) bv jt;rw[f5] at g5;have d3:Hid (ax (k+1) (λj=>jy ((x.os.z o).ls.z j))=(ax k (λj=>jy ((x.os.z o).ls.z j))||jy ((x.os.z o).ls.z k))):=Ev _ _;have g9:Hid (jy ((x.os.z o).ls.z k) = !(((x.os.z o).ls.z k).b==((x.os.z o).ls.z k).l)):=rfl
  generalize (x.os.z o).ls.z k=Z at *
  have ev:=Qqq u1;have ey:=Qqq g5;have ce:=Qqq bz;have cj:=Qqq b0;clear f1 f2 f3 f4 f5 f6 f8 f9 eu cy b0 bz cx g4 g6;cases ha:ax k (λj=>jy ((x.os.z o).ls.z j));rotate_left
  .simp only[Bool.not_true];go_wp2_with fail;clear u1 g5 g3 f7 aj;refine Qxq (by kernel_rfl) (by kernel_rfl) ?_
   repeat(go_big_quiet_step(fail))
   refine Qqz ?_;intro wq ap;have ao:=ae ap;have t:Hid (de H.heap.size q F x wq):=t.out.below ao;clear ap ao ev ey ce cj;go_wp2_with fail;go_roundw
   case rel=>exact⟨k+1,by omega,by go_num,by rw[d3.out,ha];rfl,t⟩
   case measure=>simp[intOf];omega
  cases fu:(Z.b==Z.l)
  .simp only[Bool.not_false];go_wp2_with fail;clear u1 g5 g3 f7 aj;refine Qxq (by kernel_rfl) (by kernel_rfl) ?_
   repeat(go_big_quiet_step(fail))
   refine Qqz ?_;intro wq ap;have ao:=ae ap;have t:Hid (de H.heap.size q F x wq):=t.out.below ao;clear ap ao ev ey ce cj;go_wp2_with fail;go_roundw
   case rel=>exact⟨k+1,by omega,by go_num,by rw[d3.out,ha,g9.out,fu];rfl,t⟩
   case measure=>simp[intOf];omega
  simp only[Bool.not_false];go_wp2_with fail;clear u1 g5 g3 f7 aj;refine Qxq (by kernel_rfl) (by kernel_rfl) ?_
  repeat(go_big_quiet_step(fail))
  refine Qqz ?_;intro wq ap;have ao:=ae ap;have t:Hid (de H.heap.size q F x wq):=t.out.below ao;clear ap ao ev ey ce cj;go_wp2_with fail;go_roundw
  case rel=>exact⟨k+1,by omega,by go_num,by rw[d3.out,ha,g9.out,fu];rfl,t⟩
  case measure=>simp[intOf];omega
 have i0:k=(x.os.z o).ls.n:=by omega
 have eq:Hid ((!ax k (λj=>jy ((x.os.z o).ls.z j)))=ko (cn s o l b n) o):=by
  rw[i0];show ko x o=_;rw[HT.out.got gw,Fz ct.out ho]
 obtain⟨AV,ga⟩:∃A,(!ax k (λj=>jy ((x.os.z o).ls.z j)))=A:=⟨_,rfl⟩;rw[ga] at eq ⊢;have q7:((x.os.z o).ls.n:Int)<=(k:Int):=by omega
 clear ga;have eb:=HT.out;rw[<-HK.out] at eb;have cp:Hid (ko (cn s o l b n) o=false->af x (sj p s o l b n)):=λj7=>by
  unfold sj;rw[j7,if_neg (by decide)];exact l6.same cs.out.takeIn ct.out (zg (but:=(b:Int)) cs.out.takeIn) eb
 have ck:Hid (ko (cn s o l b n) o=true->af (dj x o 2) (sj p s o l b n)):=λgt=>by
  have e0:=cs.out.all0 gt;unfold sj;rw[gt,if_pos rfl];have T0:=HT.out;have I0:=gf.out;rw[<-HK.out,e0] at T0 I0;exact Hj ((l6.zero I0 T0).trans ct.out) o 2
 clear eb;cases AV
 .have c9:Hid (af x (sj p s o l b n)):=cp.out eq.out.symm;have al:=t;obtain⟨m1,p0,p1,p2,p3,p4,p5,p6⟩:=Boxed.of al.out.box;rw[cz.out] at p1;obtain⟨-,-,-,D,J⟩:=HC.out wr al.out.bel;have HZ:Hid (Below w.heap.size w wr/\Blk wr (w.heap.size+2) 31 7 (λ_ => .slice .none 0 0)):=⟨D,J⟩;obtain⟨zl,ad,U,Y,zc1,ak,zc2,ac,zc3,ba,zc4,bc,zc5,aw,be⟩:=z7 J;have ig:=(HC.out _ brf).2.2.2.1.size;clear D J g4 g6 cp ck;go_wp2_with fail;rw[<-cz.out];have KZ:=s7b HZ.out.2 x;have b9:=s7w (b:=w.heap.size+2) HZ.out.1 (by omega) x;have a0:=s7o al.out.own HZ.out.2 x;unfold set7 at KZ b9 a0;obtain⟨ed,ea,eh,dt,ef,e8,ee⟩:=df KZ;refine Xzq (v := .tuple #[x.val,.int .i64 0]) (by simp[results,results57,go_sem,St.val,ed,ea,eh,dt,ef,e8,ee]) rfl ?_;exact⟨x,by rw[HX.out];rfl,a0.at,⟨λ_=>c9.out,λh=>absurd HX.out h⟩,λ_=>a0.mono d7.out,b9⟩
 have c9:Hid (af (dj x o 2) (sj p s o l b n)):=ck.out eq.out.symm;have me:=g6 (o*2);obtain⟨gq,b1,b2,b3⟩:=t.out.own.os.list (by omega);rw[cz.out] at b1;simp only[Qkx,Qkz,and_true] at b1;subst b1;have ia:gX≠q:=Blk.ne2 b3 t.out.box (by decide);have al:Hid (de H.heap.size q F (dj x o 2) (wr.setCell ⟨gX,o*2,none⟩ (.int .i64 2))):=⟨t.out.own.kind (o:=o) bv cz.out 2,t.out.box.other (a:=⟨gX,o*2,none⟩) ia.symm _,t.out.bel.setCell (p:=⟨gX,o*2,none⟩) (by show F.heap.size<=gX;omega) _,by have:=t.out.le;simpa using this⟩
 generalize dj x o 2=z at al c9
 obtain⟨m1,p0,p1,p2,p3,p4,p5,p6⟩:=Boxed.of al.out.box;obtain⟨-,-,-,D,J⟩:=HC.out _ al.out.bel;have HZ:Hid (Below w.heap.size w (wr.setCell ⟨gX,o*2,none⟩ (.int .i64 2))/\Blk (wr.setCell ⟨gX,o*2,none⟩ (.int .i64 2)) (w.heap.size+2) 31 7 (λ_ => .slice .none 0 0)):=⟨D,J⟩;obtain⟨zl,ad,U,Y,zc1,ak,zc2,ac,zc3,ba,zc4,bc,zc5,aw,be⟩:=z7 J;have ig:=(HC.out _ brf).2.2.2.1.size;clear D J b2 b3 g6 cp ck t
 generalize (x.os.z o).k=KK at *
 go_wp2_with fail;have KZ:=s7b HZ.out.2 z;have b9:=s7w (b:=w.heap.size+2) HZ.out.1 (by omega) z;have a0:=s7o al.out.own HZ.out.2 z;unfold set7 at KZ b9 a0;obtain⟨ed,ea,eh,dt,ef,e8,ee⟩:=df KZ;refine Xzq (v := .tuple #[z.val,.int .i64 0]) (by simp[results,results57,go_sem,St.val,ed,ea,eh,dt,ef,e8,ee]) rfl ?_;exact⟨z,by rw[HX.out];rfl,a0.at,⟨λ_=>c9.out,λh=>absurd HX.out h⟩,λ_=>a0.mono d7.out,b9⟩
theorem af.low(h:af x y)(r:ar p y)(c:b<p.nb)(a:g<p.ns):(x.on.r b).z g+bq x b g x.ms.n=dx y b g:=h.lying r.fm c a
theorem Q1(p:Pl)(s:St)(w:World)(hp:p.At w)(hs:s.At w):
  Calls prog 58 #[p.val,s.val] w λe M=>∃x:St,e = .returned (.tuple #[x.val,.int .i64 (ag p s)])/\x.At M/\ij (ag p s) (Cl p s) x/\(ag p s=0->ai w.heap.size M x)/\Below w.heap.size w M:=by
 obtain⟨W0,hW,e4,X0,Z0⟩:=Cd w p s;have HC:=Bb hp hs e4 X0 Z0;have HW:=hid hW;have leb:=hp.leb;have dj:=hp.capb;have les:=hp.les;have dm:=hp.caps;have capb:=dj;have caps:=dm;have gr:=Z0.lt;unfold maxLen at capb caps;clear hW X0 Z0 hp hs;unfold Pl.val St.val;go_enter func58,ntmps58;go_wp2_with fail;rw[HW.out];obtain⟨X,q,D,t,H⟩:=HC.out W0 brf;refine(ky p s W0 q D).mono ?_;rintro e P ⟨rfl,hB⟩;clear X q D t H HW;obtain⟨⟨⟨l1,J,d1⟩,l2,c0,c1,c2,c3,c4,c5,c6⟩,q,D,t,H⟩:=HC.out P hB;by_cases h0:ag p s=0;rotate_left
 .have e6:=hid h0;have g0:(ag p s !=0)=true:=by simpa using h0
  clear h0;clear q D;obtain⟨zl,e7,fo,ff,zc1,fp,zc2,gc,zc3,fj,zc4,e0,zc5,e2,fg⟩:=z7 H;go_wp2_with fail;exact ip results58 H t (by omega) rfl e6.out rfl rfl rfl
 have HR:Hid (ar p s):=dp h0;have H0:=hid h0;have en:=hid t.size;have dv:Hid (Calls prog 20 #[s.val] P λe M=>∃s':St,e = .returned s'.val/\af s' s/\ai P.heap.size M s'/\Below P.heap.size P M):=pd p s P D HR.out.fm;rw[h0];clear h0 q D t H;go_wp2_with fail;refine Calls.mono dv.out ?_;rintro e w4 ⟨x0,rfl,bz,c8,ch⟩;clear dv l1 J d1 l2 c0 c1 c2 c3 c4 c5 c6;obtain⟨W5,d8,bu,K5⟩:=ab7 w4 x0;have dy:=hid d8;have bi:=ch.trans (bu.mono ch.size);have A2:W0.heap.size<=P.heap.size:=hB.size;have A3:P.heap.size<=w4.heap.size:=ch.size;have d2:Hid (de P.heap.size w4.heap.size W0 x0 W5):=⟨ai.below c8 bu,K5,hB.trans (bi.mono hB.size),by have:=bi.size;omega⟩;have ed:=hid bz;have nb6:=HR.out.fm.sh.pl.nb6;have ns3:=HR.out.fm.sh.pl.ns3;clear d8 c8 K5 ch bu bi bz hB;simp only[St.val];go_wp2_with fail;rw[dy.out];clear dy
 generalize w4.heap.size=B7 at *
 go_loopw [8] (λbv m=>∃(b:Nat) (x:St),b<=p.nb/\bv = .int .i64 b/\Hid (de P.heap.size B7 W0 x m)/\Hid (af x (my p (frX p true b) s))) (λbv _=>p.nb-(intOf bv).toNat)
 case atStart=>exact⟨0,x0,Qxz _,rfl,d2,ed⟩
 clear d2 ed;obtain⟨b,x,hb,rfl,i,d⟩:=hrel;obtain⟨Y,hY⟩:∃Y,my p (frX p true b) s=Y:=⟨_,rfl⟩;have HY:=hid hY;have e5:Hid (gp p s Y):=by show gp p s Y;rw[<-hY];exact(gp.refl HR.out).B _
 rw[hY] at d;clear hY;obtain⟨⟨⟨l1,J,d1⟩,l2,c0,c1,c2,c3,c4,c5,c6⟩,q,D,t,H⟩:=HC.out wr i.out.bel;clear q D t H l2 c0 c1 c2 c3 c4 c5 c6;by_cases A:b<p.nb;rotate_left
 .have d7:b=p.nb:=by omega
  have fk:Hid (af x (Cl p s)):=by
   have h:=d.out;rw[<-HY.out,d7] at h;exact h
  have q1:(p.nb:Int)<=(b:Int):=by omega
  obtain⟨m1,p0,p1,p2,p3,p4,p5,p6⟩:=Boxed.of i.out.box;obtain⟨-,-,-,t,H⟩:=HC.out wr i.out.bel;have HZ:=qa2 t H;obtain⟨zl,e7,fo,ff,zc1,fp,zc2,gc,zc3,fj,zc4,e0,zc5,e2,fg⟩:=z7 H;have gd:=(HC.out _ brf).2.2.2.1.size;clear t H d7;go_wp2_with fail;have KZ:=s7b HZ.out.2 x;have eb:=s7w (b:=w.heap.size+2) HZ.out.1 (by omega) x;have c9:=s7o i.out.own HZ.out.2 x;unfold set7 at KZ eb c9;obtain⟨f7,fr,fl,f1,e1,fy,f8⟩:=df KZ;refine Xzq (v := .tuple #[x.val,.int .i64 0]) (by simp[results,results58,go_sem,St.val,f7,fr,fl,f1,e1,fy,f8]) rfl ?_;exact⟨x,by rw[H0.out];rfl,c9.at,⟨λ_=>fk.out,λh=>absurd H0.out h⟩,λ_=>c9.mono en.out,eb⟩
 have q0:(0:Int)<=(b:Int):=by omega
 have q1:(b:Int)<(p.nb:Int):=by omega
 have dt:Hid (af x (if (p.zb b).front=true then jg p b 0 Y else Y)):=by
  have h:=d.out
  split<;>exact h
 go_wp2_with fail;clear l1 J d1 d
 go_loopw [9] (λgv m=>∃(gg:Nat) (x:St),gg<=p.ns/\gv = .int .i64 gg/\Hid (de P.heap.size B7 W0 x m)/\Hid (af x (if (p.zb b).front=true then jg p b gg Y else Y))) (λgv _=>p.ns-(intOf gv).toNat)
 case atStart=>exact⟨0,x,Qxz _,rfl,i,dt⟩
 clear i dt;obtain⟨g,x,hg,rfl,i,d⟩:=hrel;obtain⟨⟨⟨l1,J,d1⟩,l2,c0,c1,c2,c3,c4,c5,c6⟩,q,D,t,H⟩:=HC.out wr i.out.bel;obtain⟨bb,ob,aa,am,z0,z1,z2,z3⟩:=q.bins b A;have fc:=hid aa;rw[aa] at J;clear q D t H l2 c0 c1 c2 c3 c4 c5 c6 aa;by_cases Q:(p.zb b).front=true;rotate_left
 .-- not in front
  have o:Hid (af x (my p (frX p true (b+1)) s)):=by
   have h:=d.out;rw[if_neg Q] at h;rw[L6 Q,HY.out];exact h
  have eg:(p.zb b).front=false:=by simpa using Q
  rw[eg] at z0;clear d Q eg;by_cases E:g<p.ns
  .have r1:(g:Int)<(p.ns:Int):=by omega
   go_wp2_with fail;go_roundw
   case rel=>exact⟨b+1,x,by omega,by go_num,i,o⟩
   case measure=>simp[intOf];omega
  have r1:(p.ns:Int)<=(g:Int):=by omega
  go_wp2_with fail;go_roundw
  case rel=>exact⟨b+1,x,by omega,by go_num,i,o⟩
  case measure=>simp[intOf];omega
 rw[if_pos Q] at d;have be:=hid Q;by_cases E:g<p.ns;rotate_left
 .have ee:g=p.ns:=by omega
  have o:Hid (af x (my p (frX p true (b+1)) s)):=by
   rw[Gg ⟨A,be.out⟩,Nk,HY.out];have h:=d.out;rw[ee] at h;exact h
  have r1:(p.ns:Int)<=(g:Int):=by omega
  clear ee;rw[Q] at z0;go_wp2_with fail;go_roundw
  case rel=>exact⟨b+1,x,by omega,by go_num,i,o⟩
  case measure=>simp[intOf];omega
 have r0:(0:Int)<=(g:Int):=by omega
 have r1:(g:Int)<(p.ns:Int):=by omega
 rw[Q] at z0;go_wp2_with fail;obtain⟨YG,b7⟩:∃y,jg p b g Y=y:=⟨_,rfl⟩;have b8:=hid b7;have cr:Hid (gp p s YG):=by show gp p s YG;rw[<-b7];exact e5.out.G A be.out hg
 rw[b7] at d;clear b7;have l:Hid (ar p x):=d.out.right cr.out.r;have xb:b<x.on.n:=by rw[l.out.fm.sh.n];exact A
 have cj:g<(x.on.r b).n:=by rw[l.out.fm.sh.len b xb];exact E
 have xn:(x.on.r b).n=p.ns:=l.out.fm.sh.len b xb;have dr:Hid ((x.on.r b).z g+bq x b g x.ms.n=dx YG b g):=d.out.low cr.out.r A E;have du:=l.out.fm.sh.num b xb g E;have d3:=me (s:=x) (b:=b) (g:=g) l.out.fm.moveN;have ms8:=l.out.fm.ms8;have lo:=Hf HR.out.fm.sh.pl A;obtain⟨m1,p0,p1,p2,p3,p4,p5,p6⟩:=Boxed.of i.out.box;obtain⟨g0,G0,a1,a2,a3,a4,a5,a6,a7,a8,a9,cw,b9,ak⟩:=i.out.own.onCell xb cj;unfold maxLen at a8 ak;have L:=hid i.out.own.at;have V:=hid a1;have U:Hid (∀m,x.At m->Calls prog 116 #[.agg #[.slice (some ⟨g0,0,none⟩) x.on.n x.on.c,.slice x.os.a x.os.n x.os.c,.slice x.hs.a x.hs.n x.hs.c,.slice x.ms.a x.ms.n x.ms.c,.slice x.si.a x.si.n x.si.c,.slice x.so.a x.so.n x.so.c,.slice x.sf.a x.sf.n x.sf.c],.int .i64 b,.int .i64 g] m λe M=>e = .returned (.int .i64 (bq x b g x.ms.n))/\Below m.heap.size m M):=λm h=>by have k:=Db p x b g m h l.out.fm;rw[St.val,V.out] at k;exact k
 have s0:(b:Int)<(x.on.n:Int):=by omega
 have s1:(g:Int)<((x.on.r b).n:Int):=by omega
 rw[a1] at p0;have b3:=Qqq J;have dw:=Qqq z2;have b4:=Qqq p0;have b6:=Qqq p1;have ca:=Qqq p2;have ce:=Qqq p3;have bx:=Qqq p4;have b1:=Qqq p5;have b5:=Qqq p6;have b0:=Qqq a3;have cc:=Qqq a9;clear a1 a4 a5 cw
 generalize hCO:bq x b g x.ms.n=CO at *
 generalize hZO:(x.on.r b).z g=ZO at *
 have ft:Hid ((p.zb b).low=(p.zb b).low):=rfl
 generalize hLW:(p.zb b).low=LW at *
 have HQ:=qa2 dr.out hLW;have gb:=qa2 hCO hZO;clear dr hLW ft hCO hZO l1 J d1 z0 z1 z2 z3 p0 p1 p2 p3 p4 p5 p6 a3 a9;by_cases cv:LW<=ZO+CO
 .refine Qxq (by kernel_rfl) (by kernel_rfl) ?_
  repeat(go_big_quiet_step((go_at_call 116;exact Xxz (U.out _ (L.out.below (Qxx _ _ _))))))
  refine Qqz ?_;intro w6 T;have S:=ae T;have i:=hid (i.out.below S);clear T S L U b3 dw b4 b6 ca ce bx b1 b5 b0 cc m1 a2 a6 a7 a8 b9 ak am;have o:Hid (af x (if (p.zb b).front=true then jg p b (g+1) Y else Y)):=by
   rw[if_pos be.out,P4 (by rw[b8.out,<-HQ.out.1,HQ.out.2];exact cv),b8.out];exact d.out
  go_wp2_with fail;go_roundw
  case rel=>exact⟨g+1,x,by omega,by go_num,i,o⟩
  case measure=>simp[intOf];omega
 refine Qxq (by kernel_rfl) (by kernel_rfl) ?_
 repeat(go_big_quiet_step((go_at_call 116;exact Xxz (U.out _ (L.out.below (Qxx _ _ _))))))
 refine Qqz ?_;intro w6 T;have S:=ae T;have i:=hid (i.out.below S);clear T S L U b3 dw b4 b6 ca ce bx b1 b5 b0 cc m1 a2 a6 a7 a8 b9 ak am;have fz:Hid (¬(p.zb b).low<=dx (jg p b g Y) b g):=by rw[b8.out,<-HQ.out.1,HQ.out.2];exact cv
 have dz:=hid d.out;clear HQ gb d l V du d3 xb cj xn s0 s1 ms8 cv;go_wp2_with fail
 go_loopw [10] (λfv m=>∃(f:Nat) (x:St),f<=p.nb/\fv = .int .i64 f/\Hid (de P.heap.size B7 W0 x m)/\Hid (af x (jt p b g (frX p false f) YG))) (λfv _=>p.nb-(intOf fv).toNat)
 case atStart=>exact⟨0,x,Qxz _,rfl,i,dz⟩
 clear i dz;obtain⟨f,x,hf,rfl,i,d⟩:=hrel;obtain⟨YF,ci⟩:∃y,jt p b g (frX p false f) YG=y:=⟨_,rfl⟩;have ct:=hid ci;have d9:Hid (gp p s YF):=by show gp p s YF;rw[<-ci];exact cr.out.F A be.out E _
 rw[ci] at d;clear ci;obtain⟨⟨⟨l1,J,d1⟩,l2,c0,c1,c2,c3,c4,c5,c6⟩,q,D,t,H⟩:=HC.out wr i.out.bel;clear D t H l2 c0 c1 c2 c3 c4 c5 c6;by_cases aq:f<p.nb;rotate_left
 .have eh:f=p.nb:=by omega
  have o:Hid (af x (if (p.zb b).front=true then jg p b (g+1) Y else Y)):=by
   rw[if_pos be.out,Sn (by have:=fz.out;omega),b8.out,<-eh,ct.out];exact d.out
  have q2:(p.nb:Int)<=(f:Int):=by omega
  clear q eh;go_wp2_with fail;go_roundw
  case rel=>exact⟨g+1,x,by omega,by go_num,i,o⟩
  case measure=>simp[intOf];omega
 have q2:(0:Int)<=(f:Int):=by omega
 have q3:(f:Int)<(p.nb:Int):=by omega
 obtain⟨bb,ob,aa,am,z0,z1,z2,z3⟩:=q.bins f aq;have fc:=hid aa;rw[aa] at J;have al:=hid q;clear q aa;have l:Hid (ar p x):=d.out.right d9.out.r;have ms8:=l.out.fm.ms8;have av:=hid d.out.ms.1;obtain⟨m1,p0,p1,p2,p3,p4,p5,p6⟩:=Boxed.of i.out.box;by_cases cd:(p.zb f).front=true
 .have o:Hid (af x (jt p b g (frX p false (f+1)) YG)):=by
   rw[L6 (by rw[cd];decide),ct.out];exact d.out
  rw[cd] at z0;clear l av al;go_wp2_with fail;go_roundw
  case rel=>exact⟨f+1,x,by omega,by go_num,i,o⟩
  case measure=>simp[intOf];omega
 have br:(p.zb f).front=false:=by simpa using cd
 have an:Hid (jt p b g (frX p false (f+1)) YG=o5 p b g f YF):=by show _=_;rw[Gg ⟨aq,br⟩,Nl,ct.out]
 rw[br] at z0;clear cd br;by_cases fi:8<=x.ms.n
 .have o:Hid (af x (jt p b g (frX p false (f+1)) YG)):=by
   rw[an.out,Ea (by rw[<-av.out];exact fi)];exact d.out
  have q4:(8:Int)<=(x.ms.n:Int):=by omega
  clear l av al an;go_wp2_with fail;go_roundw
  case rel=>exact⟨f+1,x,by omega,by go_num,i,o⟩
  case measure=>simp[intOf];omega
 have q4:(x.ms.n:Int)<8:=by omega
 have xb:b<x.on.n:=by rw[l.out.fm.sh.n];exact A
 have cj:g<(x.on.r b).n:=by rw[l.out.fm.sh.len b xb];exact E
 have xn:(x.on.r b).n=p.ns:=l.out.fm.sh.len b xb;go_wp2_with fail;clear J z0 z1 z2 z3 am;obtain⟨-,J,-⟩:=(HC.out wr i.out.bel).1.1;obtain⟨fu,f0,bo,am,z0,z1,z2,z3⟩:=al.out.bins b A;rw[bo] at J;obtain⟨bs,os,da,fb,y0⟩:=al.out.sizes g E;have c7:=qa2 da bo;rw[da] at d1;obtain⟨g0,G0,a1,a2,a3,a4,a5,a6,a7,a8,a9,cw,b9,ak⟩:=i.out.own.onCell xb cj;unfold maxLen at a8 ak;have L:=hid i.out.own.at;have V:=hid a1;have U:Hid (∀m,x.At m->Calls prog 116 #[.agg #[.slice (some ⟨g0,0,none⟩) x.on.n x.on.c,.slice x.os.a x.os.n x.os.c,.slice x.hs.a x.hs.n x.hs.c,.slice x.ms.a x.ms.n x.ms.c,.slice x.si.a x.si.n x.si.c,.slice x.so.a x.so.n x.so.c,.slice x.sf.a x.sf.n x.sf.c],.int .i64 b,.int .i64 g] m λe M=>e = .returned (.int .i64 (bq x b g x.ms.n))/\Below m.heap.size m M):=λm h=>by have k:=Db p x b g m h l.out.fm;rw[St.val,V.out] at k;exact k
 have ea:Hid (∀m,x.At m->Calls prog 120 #[.agg #[.slice (some ⟨g0,0,none⟩) x.on.n x.on.c,.slice x.os.a x.os.n x.os.c,.slice x.hs.a x.hs.n x.hs.c,.slice x.ms.a x.ms.n x.ms.c,.slice x.si.a x.si.n x.si.c,.slice x.so.a x.so.n x.so.c,.slice x.sf.a x.sf.n x.sf.c],.int .i64 f,.int .i64 g] m λe M=>e = .returned (.int .i64 (aw x f g))/\Below m.heap.size m M):=λm h=>by have k:=Kr p x f g m h l.out.fm aq E;rw[St.val,V.out] at k;exact k
 have d6:Hid (∀m,p.At m->x.At m->Calls prog 115 #[.agg #[.slice (some ⟨fu,f0,none⟩) p.nb p.cb,.slice (some ⟨bs,os,none⟩) p.ns p.cs],.agg #[.slice (some ⟨g0,0,none⟩) x.on.n x.on.c,.slice x.os.a x.os.n x.os.c,.slice x.hs.a x.hs.n x.hs.c,.slice x.ms.a x.ms.n x.ms.c,.slice x.si.a x.si.n x.si.c,.slice x.so.a x.so.n x.so.c,.slice x.sf.a x.sf.n x.sf.c],.int .i64 b] m λe M=>e = .returned (.int .i64 (gj p x b))/\Below m.heap.size m M):=λm h1 h=>by have k:=Mw p x b m h1 h l.out.fm A;rw[St.val,Pl.val,V.out,c7.out.1,c7.out.2] at k;exact k
 have s0:(b:Int)<(x.on.n:Int):=by omega
 have s1:(g:Int)<((x.on.r b).n:Int):=by omega
 rw[a1] at p0;have du:=l.out.fm.sh.num b xb g E;have d3:=me (s:=x) (b:=b) (g:=g) l.out.fm.moveN;have gz:=Hf HR.out.fm.sh.pl A;have g4:=Pu l.out aq E;have g1:=Sr l.out.fm A;have g3:=HR.out.fm.sh.pl.sizes g E;have d4:Hid (min (min ((p.zb b).high-(x.on.r b).z g-bq x b g x.ms.n) (aw x f g)) ((gj p x b).tdiv (p.zs g))=px p YF b g f):=by
  show _=_;rw[<-Hc d.out d9.out.r.fm A E aq,px,dx]
  congr 2
  omega
 have b3:=Qqq J;have fa:=Qqq d1;have fd:=Qqq z3;have b4:=Qqq p0;have b6:=Qqq p1;have ca:=Qqq p2;have ce:=Qqq p3;have bx:=Qqq p4;have b1:=Qqq p5;have b5:=Qqq p6;have b0:=Qqq a3;have cc:=Qqq a9;have fw:=Qqq y0;clear a1 a4 a5 cw da bo
 generalize bq x b g x.ms.n=CO at *
 generalize (x.on.r b).z g=ZO at *
 generalize aw x f g=AV at *
 generalize gj p x b=FR at *
 generalize p.zs g=ZS at *
 generalize (p.zb b).high=HI at *
 clear J d1 z0 z1 z2 z3 p0 p1 p2 p3 p4 p5 p6 a3 a9 y0 l1;refine Qxq (by kernel_rfl) (by kernel_rfl) ?_
 repeat(go_big_quiet_step((first|(go_at_call 116;exact Xxz (U.out _ (L.out.below (Qxx _ _ _))))|(go_at_call 120;exact Xxz (ea.out _ (L.out.below (Qxx _ _ _))))|(go_at_call 115;exact Xxz (d6.out _ (al.out.below (Qxx _ _ _)) (L.out.below (Qxx _ _ _)))))))
 refine Qqz ?_;intro w6 T;have S:=ae T;have i:=hid (i.out.below S);clear T S L U ea d6 b3 fa fd b4 b6 ca ce bx b1 b5 b0 cc fw m1 a2 a6 a7 a8 b9 ak am fb al c7 V;obtain⟨NN,dd⟩:∃NN,(if FR.tdiv ZS<if AV<HI-ZO-CO then AV else HI-ZO-CO then FR.tdiv ZS else if AV<HI-ZO-CO then AV else HI-ZO-CO)=NN:=⟨_,rfl⟩;rw[dd];have b2:Hid (NN=px p YF b g f):=by
  show NN=_;rw[<-d4.out,<-dd]
  generalize FR.tdiv ZS=QQ
  split<;>split<;>omega
 clear dd d4;by_cases h1:0<NN;rotate_left
 .have o:Hid (af x (jt p b g (frX p false (f+1)) YG)):=by
   rw[an.out];unfold o5;rw[<-b2.out,if_neg (by omega)];exact d.out
  clear an b2 av l;go_wp2_with fail;go_roundw
  case rel=>exact⟨f+1,x,by omega,by go_num,i,o⟩
  case measure=>simp[intOf];omega
 have d5:Hid (o5 p b g f YF=ja YF ⟨g,f,b,NN⟩):=by
  show _=_;unfold o5;rw[<-b2.out,if_pos ⟨by rw[<-av.out];omega,by omega⟩]
 obtain⟨iM,hM,fq,ga,e8⟩:=info_parts Ec;obtain⟨W7,db,cq⟩:∃W,w6.alloc (.cells #[.int .i64 (g:Int),.int .i64 (f:Int),.int .i64 (b:Int),.int .i64 NN] 63)=W/\Below w6.heap.size w6 W:=⟨_,rfl,brf.alloc nlr _⟩;have ds:Hid (w6.alloc (.cells #[.int .i64 (g:Int),.int .i64 (f:Int),.int .i64 (b:Int),.int .i64 NN] 63)=W7):=db;have ef:Hid (∀j u,(dc ⟨g,f,b,NN⟩)[j]?=some u->W7.cell? ((⟨w6.heap.size,0,none⟩:Addr).add j)=some u):=by rw[<-db];exact ab6 w6 ⟨g,f,b,NN⟩ _
 obtain⟨m1,p0,p1,p2,p3,p4,p5,p6⟩:=Boxed.of i.out.box;have K:=hid (i.out.below cq);have g2:=K.out.own.ms.1;have e9:=K.out.own.ms.2.1;unfold maxLen at e9;clear db cq p0 p1 p2 p4 p5 p6 i;go_wp2_with(at_builtin;rw[ds.out];refine ui W7 rfl (.tmp 120) (.tmp 126) 29 rfl P.heap.size 63 iM (.agg #[.int .i64 0,.int .i64 0,.int .i64 0,.int .i64 0]) 4 32 underlying29 hM fq ga e8 rfl (by decide) x.ms.a x.ms.n x.ms.c (ay x.ms.n x.ms.z) rfl K.out.own.msr K.out.own.ms.1 K.out.own.ms.2.1 (eu _ _) K.out.own.ms.2.2.2 ⟨w6.heap.size,0,none⟩ 1 1 (dc ⟨g,f,b,NN⟩) rfl rfl ef.out (λu hu=>by simp[dc] at hu;rcases hu with rfl|rfl|rfl|rfl<;>rfl) (by decide) ?zc3 ?zc4 K.out.le ?_)
 case zc3=>unfold maxLen;omega
 case zc4=>omega
 intro v2 w2 cg bc;obtain⟨k,rfl,ec,kn,kz,kl,cf⟩:=K.out.more A2 A3 cg bc;have f3:=hid ec;have o:Hid (af (withMoves x k) (jt p b g (frX p false (f+1)) YG)):=by
  rw[an.out,d5.out];exact D1 d.out _ kn kz kl
 have z1:=cf.lt;have z2:=cf.frozen 3;have z3:=cf.k 3;clear cg bc ec kn kz kl cf K ef ds m1 p3 d5 an b2
 try simp only[Act.put,Qvq,Qwx,Qwz]
 go_wp2_with fail;go_roundw
 case rel=>exact⟨f+1,withMoves x k,by omega,by go_num,f3,o⟩
 case measure=>simp[intOf];omega
end Go.Proofs.YtbcacebifpagpagGreat

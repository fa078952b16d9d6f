/- Joined texts of DeskPlays. -/
import Derived.Test.YtjgckphgagdpaaaGreatDoorK4DeskPlays
import Derived.WideKeyEntry
import Derived.DeepKeys5
import Derived.KernelRfl
import Derived.Below
set_option maxHeartbeats 8000000
set_option maxRecDepth 100000
set_option linter.unusedVariables false
namespace Go.Proofs.YtjgckphgagdpaaaGreatDoor
variable{n b A g l c i m q r j R C M u:Nat}{P:Prop}{w a w' d X:World}{s x y:St}{W J K D:Int}{e t:TypeId}{p:Pl}{z H:Nat->Hd}{f O:Nat->Value}{Q:Exit->Act->World->Prop}{v U:Value}{V Y:Hs}{Z E:Int->Int->Int}{h:Hd}{xs:List Value}{S:World->Prop}{z' zs:Nat->Int}{a1:Act}
open _root_.Go.Proofs.Tryz
open Go.RowKit Go.Shelf Go.Sort
def j7(w:World)(a:Option Addr)(l:List Int):Prop:=lw w a l.length (λj=>l.getD j 0)
theorem j7.below{a:Option Addr}{l:List Int}(h:j7 w a l)(b:Bw w w'):j7 w' a l:=lw.below h b
theorem j7.owns{a:Option Addr}{l:List Int}(h:w.ownsRow A 3 1 (.slice a l.length c) l.length (ju l)):j7 w a l:=λi hi=>by
 have f:Value.slice a l.length c ≠ .slice none 0 0:=λe=>by simp only[Value.slice.injEq] at e;omega
 obtain⟨g,k,b,m,n,o,d⟩:=Blk.ofOwns h f;simp only[Value.slice.injEq,true_and] at b;refine⟨g,0,b.1,d.lt,?_⟩;rw[Nat.zero_add,d.cell (j:=i) ow];simp[ju,List.getD,List.getElem?_eq_getElem hi]
def vh(q:Option (Int × List Int))(w:World)(e:Ending)(w':World):Prop :=
 (match q with
  | none=>e = .returned (.tuple #[.slice none 0 0,.int .i64 0,.bool false])
  | some (E,l)=>∃a c,e = .returned (.tuple #[.slice a l.length c,.int .i64 E,.bool true])/\j7 w' a l)/\Bw w w'
theorem Bo(f:Nat->Int):∀n,(j6 (λg=>[f g]) n).length=n
 | 0=>rfl
 | n+1=>by rw[j6,List.length_append,Bo f n];rfl
theorem Ya(f:Nat->Int):∀{n i:Nat},i<n->(j6 (λg=>[f g]) n).getD i 0=f i
 | n+1,i,h=>by
  rw[j6];by_cases c:i=n
  .subst c;simp only[List.getD];rw[List.getElem?_append_right (by rw[Bo];exact Nat.le_refl _),Bo,Nat.sub_self]
   rfl
  have:=Ya f (n:=n) (i:=i) ow;simp only[List.getD] at this ⊢;rw[List.getElem?_append_left (by rw[Bo];omega)];exact this
theorem C4(z:Nat->Hd):∀n,(j6 (λj=>ou (z j)) n).length=4*n
 | 0=>rfl
 | n+1=>by rw[j6,List.length_append,C4 z n];simp[ou];omega
theorem P1(z:Nat->Hd):∀n,(j6 (λj=>ny (z j)) n).length=3*n
 | 0=>rfl
 | n+1=>by rw[j6,List.length_append,P1 z n];simp[ny];omega
theorem ajh(s:St)(i:Nat):(m9 s i).length=1+3*(s.os.z i).ls.n:=by
 unfold m9;rw[List.length_cons,P1];omega
theorem Zw(h:(s.on.r b).At w):j7 w (s.on.r b).a (ua s b):=λi hi=>by
 have c:(ua s b).length=(s.on.r b).n:=Bo _ _;obtain⟨q,o,d,e,f⟩:=h.ints i (by rw[<-c];exact hi);refine⟨q,o,d,e,?_⟩;rw[f];dsimp only;rw[show(ua s b).getD i 0=(s.on.r b).z i from Ya _ (by rw[<-c];exact hi)]
theorem ajz(p:Pl)(s:St)(a:Option Addr)(c:Nat)(l:List Int)(w:World)(h:¬l.length=1):
  Calls prog 41 #[p.val,s.val,.string ⟨#[115,104,101,108,102]⟩,.slice a l.length c] w λe w'=>vh none w e w':=al4
theorem agf(p:Pl)(s:St)(a:Option Addr)(c:Nat)(l:List Int)(w:World)(h:¬l.length=1):
  Calls prog 41 #[p.val,s.val,.string ⟨#[111,114,100,101,114]⟩,.slice a l.length c] w λe w'=>vh none w e w':=al4
theorem agh(p:Pl)(s:St)(a:Option Addr)(c:Nat)(l:List Int)(w:World)(h:¬l.length=0):
  Calls prog 41 #[p.val,s.val,.string ⟨#[104,111,108,100,115]⟩,.slice a l.length c] w λe w'=>vh none w e w':=abb
theorem agi(p:Pl)(s:St)(a:Option Addr)(c:Nat)(l:List Int)(w:World)(h:¬l.length=0):
  Calls prog 41 #[p.val,s.val,.string ⟨#[109,111,118,101,115]⟩,.slice a l.length c] w λe w'=>vh none w e w':=abb
theorem agj(p:Pl)(s:St)(a:Option Addr)(c:Nat)(l:List Int)(w:World)(h:¬l.length=0):
  Calls prog 41 #[p.val,s.val,.string ⟨#[111,112,101,110]⟩,.slice a l.length c] w λe w'=>vh none w e w':=abb
theorem Wa(p:Pl)(s:St)(t:List UInt8)(a:Option Addr)(c:Nat)(l:List Int)(w:World)(i:¬t=[115,104,101,108,102])(b:¬t=[111,114,100,101,114])(d:¬t=[104,111,108,100,115])(f:¬t=[109,111,118,101,115])(g:¬t=[111,112,101,110]):
  Calls prog 41 #[p.val,s.val,.string ⟨t.toArray⟩,.slice a l.length c] w λe w'=>vh none w e w':=by
 have o:(t==[115,104,101,108,102])=false:=by simpa using i
 have j:(t==[111,114,100,101,114])=false:=by simpa using b
 have k:(t==[104,111,108,100,115])=false:=by simpa using d
 have m:(t==[109,111,118,101,115])=false:=by simpa using f
 have n:(t==[111,112,101,110])=false:=by simpa using g
 exact abp
theorem aws(p:Pl)(s:St)(a:Option Addr)(c:Nat)(x:Int)(w:World)(l:p.At w)(hs:s.At w)(hi:j7 w a [x])(r:am p s)(q:Option (Int × List Int))(J:q=if inB x 0 ((p.nb:Int)-1) then some (0,ua s x.toNat) else some (4,[])):
  Calls prog 41 #[p.val,s.val,.string ⟨#[115,104,101,108,102]⟩,.slice a 1 c] w λe w'=>vh q w e w':=by
 have HQ:Hid (q=if inB x 0 ((p.nb:Int)-1) then some (0,ua s x.toNat) else some (4,[])):=J;clear J;obtain⟨j,B,hWB,H⟩:∃W,(w.alloc (.cells #[.slice p.ab p.nb p.cb,.slice p.sa p.ns p.cs] 25)).alloc (.cells s.cells 36)=W/\Bw w W/\jj W w.heap.size (w.heap.size+1) p s:=⟨_,rfl,dx _ _ _,ku w p s _ _⟩;have HC:Hid (∀d,Bw j d->jj d w.heap.size (w.heap.size+1) p s/\p.At d/\s.At d/\Bw w d):=λd h=>⟨H.below h,(l.below hWB).below h,(hs.below hWB).below h,hWB.trans (h.mono hWB.size)⟩;unfold St.cells at B;have S:=hid B;obtain⟨b,o,rfl,hb,hc⟩:=hi 0 Nat.zero_lt_one;have G:Hid (∀d,Bw j d->d.cell? ⟨b,o,none⟩=some (.int .i64 x)/\b<d.heap.size):=λd h=>am5;have leb:=l.leb;have capb:=l.capb;have D:s.on.n=p.nb:=r.fm.sh.n;have X:Hid (∀i,i<s.on.n->i<p.nb):=λi hi=>by rw[<-D];exact hi
 have F:Hid (s.on.n=p.nb/\p.nb<=6):=⟨D,r.fm.sh.pl.nb6⟩;clear B H hWB l hs hi hb hc D;unfold Pl.val St.val;go_enter func41,ntmps41;go_wp2_with fail;rw[S.o];obtain⟨⟨⟨L,z,A⟩,M,y,c1,c2,c3,c4,c5,c6⟩,k,g,f⟩:=HC.o j brf;obtain⟨E,Q⟩:=G.o j brf;have T:=Qqq z;have U:=Qqq A;have V:=Qqq E;clear k g f y c1 c2 c3 c4 c5 c6;refine Qxq ko ko ?_
 repeat(go_big_quiet_step(first|(go_at_call 78;exact Xxz (zq p _ _ leb capb))))
 refine Qqz ?_;intro w9 hw9;have hB9:Bw j w9:=Xd;clear hw9 T U V z A L M E Q;cases hx:inB x 0 ((p.nb:Int)-1)
 .exact avh
 have K:=ar hx;have m:q=some (0,ua s x.toNat):=aat;clear HQ;obtain⟨i,rfl⟩:∃i:Nat,x=i:=⟨x.toNat,ow⟩;have t:i<s.on.n:=by rw[F.o.1];omega
 obtain⟨⟨⟨L,z,A⟩,M,y,c1,c2,c3,c4,c5,c6⟩,k,g,f⟩:=HC.o w9 hB9;obtain⟨E,Q⟩:=G.o w9 hB9;obtain⟨rb,ro,ra,rl,rc,u⟩:=g.on.rows i t;have v:Hid (j7 w9 (s.on.r i).a (ua s i)/\(ua s i).length=(s.on.r i).n/\Bw w w9):=⟨Zw u,Bo _ _,f⟩;rw[ra] at y;have q0:(0:Int)<=(i:Int):=ow;have Y:(i:Int)<(s.on.n:Int):=ow;have HQ2:Hid (q=some (0,ua s i)):=m;clear K hx k g f u t ra m;go_wp2_with fail
 go_region
 go_wp2_with fail
 go_ret3
 rw[HQ2.o];exact⟨⟨(s.on.r i).a,(s.on.r i).c,by rw[v.o.2.1];rfl,v.o.1.below (brf.drew)⟩,v.o.2.2.drew⟩
theorem art(p:Pl)(s:St)(a:Option Addr)(c:Nat)(w:World)(M:p.At w)(hs:s.At w)(hn:s.hs.n<=100):
  Calls prog 41 #[p.val,s.val,.string ⟨#[104,111,108,100,115]⟩,.slice a 0 c] w λe w'=>vh (some (0,xi s)) w e w':=by
 obtain⟨f,y,g,D⟩:∃W,(w.alloc (.cells #[.slice p.ab p.nb p.cb,.slice p.sa p.ns p.cs] 25)).alloc (.cells s.cells 36)=W/\Bw w W/\jj W w.heap.size (w.heap.size+1) p s:=⟨_,rfl,dx _ _ _,ku w p s _ _⟩;have T:Hid (∀d,Bw f d->jj d w.heap.size (w.heap.size+1) p s/\p.At d/\s.At d/\Bw w d):=λd h=>⟨D.below h,(M.below g).below h,(hs.below g).below h,g.trans (h.mono g.size)⟩;unfold St.cells at y;have U:=hid y;obtain⟨iI,F,G,H,J⟩:=info_parts Ad;have al:=hs.hs.le;have ag:=hs.hs.cap;clear y D g M hs;unfold Pl.val St.val;go_enter func41,ntmps41;go_wp2_with fail;rw[U.o]
 go_loopw [11,15] (λov B d=>∃(k n:Nat) (a:Option Addr) (c:Nat),k<=s.hs.n/\B = .int .i64 k/\ov = .slice a n c/\Hid (n=4*k/\d.ownsRow f.heap.size 3 1 (.slice a n c) n (ju (j6 (λj=>ou (s.hs.z j)) k))/\Bw f d)) (λ_ B _=>s.hs.n-(intOf B).toNat)
 case atStart=>exact aoh
 obtain⟨k,n,a2,c2,hk,rfl,rfl,HS⟩:=hrel;have r:=HS.o.2.2;obtain⟨⟨⟨l1,Y,d1⟩,l2,V,c1,E,c3,c4,c5,c6⟩,Q,hsk,x⟩:=T.o wr r;have HBW:=hid x;clear r x Q l1 Y d1 V c1 c4 c5 c6;by_cases L:k<s.hs.n;rotate_left
 .have q0:¬(k:Int)<(s.hs.n:Int):=ow;have hke:k=s.hs.n:=ow;have HF:Hid (j7 wr a2 (xi s)/\n=(xi s).length):=by
   have h:=HS.o;have hl:(xi s).length=n:=akr;exact apt
  exact anf
 have q0:(k:Int)<(s.hs.n:Int):=ow;have q1:(0:Int)<=(k:Int):=ow;obtain⟨hb,ho,K,ak,h0,h1,h2,h3⟩:=hsk.hs.hds k L;rw[K] at E;obtain⟨X,A⟩:∃X,s.hs.z k=X:=⟨_,rfl⟩;rw[A] at h0 h1 h2 h3;have HX:=hid A;obtain⟨q,m,i⟩:∃W,(wr.alloc (.cells #[.int .i64 X.o,.int .i64 X.l,.int .i64 X.b,.int .i64 X.n] 107)).alloc (.cells #[.int .i64 X.o,.int .i64 X.l,.int .i64 X.b,.int .i64 X.n] 3)=W/\Bw wr W:=⟨_,rfl,dx _ _ _⟩;have v:=hid m;have t:Hid (∀j u,(ju (ou X))[j]?=some u->q.cell? ((⟨wr.heap.size+1,0,none⟩:Addr).add j)=some u):=by
  rw[<-m];have:=Zi (wr.alloc (.cells #[.int .i64 X.o,.int .i64 X.l,.int .i64 X.b,.int .i64 X.n] 107)) X 3;rw[show(wr.alloc (.cells #[.int .i64 X.o,.int .i64 X.l,.int .i64 X.b,.int .i64 X.n] 107)).heap.size=wr.heap.size+1 by simp] at this;exact this
 have HS5:Hid (n=4*k/\q.ownsRow f.heap.size 3 1 (.slice a2 n c2) n (ju (j6 (λj=>ou (s.hs.z j)) k))/\Bw f q):=⟨HS.o.1,ky HS.o.2.1 i,HS.o.2.2.trans (i.mono HS.o.2.2.size)⟩;have am:n<=400:=aak;clear m i HS A hsk K;go_wp2_with(at_builtin;rw[v.o];refine wpList_append_own q rfl (.tmp 120) (.tmp 129) 23 rfl f.heap.size 3 iI (.int .i64 0) 1 8 underlying23 F G H J rfl dc (.slice a2 n c2) n (ju (j6 (λj=>ou (s.hs.z j)) k)) rfl HS5.o.2.1 ⟨wr.heap.size+1,0,none⟩ 4 4 (ju (ou X)) rfl rfl t.o (λu hu=>asl) uo ow HS5.o.2.2.size ?_);intro v2 S r1 r2 _;obtain⟨a3,c3',rfl,-⟩:=wn r1;have HS6:Hid (n+4=4*(k+1)/\S.ownsRow f.heap.size 3 1 (.slice a3 (n+4) c3') (n+4) (ju (j6 (λj=>ou (s.hs.z j)) (k+1)))/\Bw f S):=al7;clear r1 r2 HS5 t v
 try simp only[Act.put,Qvq,Qwx,Qwz]
 go_wp2_with fail;go_roundw
 case rel=>exact apx
 case measure=>simp[intOf];omega
theorem aru(p:Pl)(s:St)(a:Option Addr)(c:Nat)(w:World)(L:p.At w)(hs:s.At w)(hn:s.ms.n<=100):
  Calls prog 41 #[p.val,s.val,.string ⟨#[109,111,118,101,115]⟩,.slice a 0 c] w λe w'=>vh (some (0,xj s)) w e w':=by
 obtain⟨f,y,g,D⟩:∃W,(w.alloc (.cells #[.slice p.ab p.nb p.cb,.slice p.sa p.ns p.cs] 25)).alloc (.cells s.cells 36)=W/\Bw w W/\jj W w.heap.size (w.heap.size+1) p s:=⟨_,rfl,dx _ _ _,ku w p s _ _⟩;have S:Hid (∀d,Bw f d->jj d w.heap.size (w.heap.size+1) p s/\p.At d/\s.At d/\Bw w d):=λd h=>⟨D.below h,(L.below g).below h,(hs.below g).below h,g.trans (h.mono g.size)⟩;unfold St.cells at y;have T:=hid y;obtain⟨iI,E,F,G,H⟩:=info_parts Ad;have al:=hs.ms.le;have af:=hs.ms.cap;clear y D g L hs;unfold Pl.val St.val;go_enter func41,ntmps41;go_wp2_with fail;rw[T.o]
 go_loopw [11,17] (λov B d=>∃(k n:Nat) (a:Option Addr) (c:Nat),k<=s.ms.n/\B = .int .i64 k/\ov = .slice a n c/\Hid (n=4*k/\d.ownsRow f.heap.size 3 1 (.slice a n c) n (ju (j6 (λj=>ou (s.ms.z j)) k))/\Bw f d)) (λ_ B _=>s.ms.n-(intOf B).toNat)
 case atStart=>exact aoh
 obtain⟨k,n,a2,c2,hk,rfl,rfl,HS⟩:=hrel;have r:=HS.o.2.2;obtain⟨⟨⟨l1,V,Y⟩,l2,U,c1,aj,c3,c4,c5,c6⟩,M,hsk,x⟩:=S.o wr r;have HBW:=hid x;clear r x M l1 V Y U c1 c4 c5 c6;by_cases K:k<s.ms.n;rotate_left
 .have q0:¬(k:Int)<(s.ms.n:Int):=ow;have hke:k=s.ms.n:=ow;have HF:Hid (j7 wr a2 (xj s)/\n=(xj s).length):=by
   have h:=HS.o;have hl:(xj s).length=n:=akr;exact apt
  exact anf
 have q0:(k:Int)<(s.ms.n:Int):=ow;have q1:(0:Int)<=(k:Int):=ow;obtain⟨hb,ho,J,ak,h0,h1,h2,h3⟩:=hsk.ms.hds k K;rw[J] at c3;obtain⟨X,A⟩:∃X,s.ms.z k=X:=⟨_,rfl⟩;rw[A] at h0 h1 h2 h3;have HX:=hid A;obtain⟨q,m,i⟩:∃W,(wr.alloc (.cells #[.int .i64 X.o,.int .i64 X.l,.int .i64 X.b,.int .i64 X.n] 110)).alloc (.cells #[.int .i64 X.o,.int .i64 X.l,.int .i64 X.b,.int .i64 X.n] 3)=W/\Bw wr W:=⟨_,rfl,dx _ _ _⟩;have v:=hid m;have t:Hid (∀j u,(ju (ou X))[j]?=some u->q.cell? ((⟨wr.heap.size+1,0,none⟩:Addr).add j)=some u):=by
  rw[<-m];have:=Zi (wr.alloc (.cells #[.int .i64 X.o,.int .i64 X.l,.int .i64 X.b,.int .i64 X.n] 110)) X 3;rw[show(wr.alloc (.cells #[.int .i64 X.o,.int .i64 X.l,.int .i64 X.b,.int .i64 X.n] 110)).heap.size=wr.heap.size+1 by simp] at this;exact this
 have HS5:Hid (n=4*k/\q.ownsRow f.heap.size 3 1 (.slice a2 n c2) n (ju (j6 (λj=>ou (s.ms.z j)) k))/\Bw f q):=⟨HS.o.1,ky HS.o.2.1 i,HS.o.2.2.trans (i.mono HS.o.2.2.size)⟩;have am:n<=400:=aak;clear m i HS A hsk J;go_wp2_with(at_builtin;rw[v.o];refine wpList_append_own q rfl (.tmp 150) (.tmp 159) 23 rfl f.heap.size 3 iI (.int .i64 0) 1 8 underlying23 E F G H rfl dc (.slice a2 n c2) n (ju (j6 (λj=>ou (s.ms.z j)) k)) rfl HS5.o.2.1 ⟨wr.heap.size+1,0,none⟩ 4 4 (ju (ou X)) rfl rfl t.o (λu hu=>asl) uo ow HS5.o.2.2.size ?_);intro v2 Q r1 r2 _;obtain⟨a3,c3',rfl,-⟩:=wn r1;have HS6:Hid (n+4=4*(k+1)/\Q.ownsRow f.heap.size 3 1 (.slice a3 (n+4) c3') (n+4) (ju (j6 (λj=>ou (s.ms.z j)) (k+1)))/\Bw f Q):=al7;clear r1 r2 HS5 t v
 try simp only[Act.put,Qvq,Qwx,Qwz]
 go_wp2_with fail;go_roundw
 case rel=>exact apx
 case measure=>simp[intOf];omega
theorem arv(p:Pl)(s:St)(a:Option Addr)(c:Nat)(w:World)(z:p.At w)(hs:s.At w)(r:am p s):
  Calls prog 41 #[p.val,s.val,.string ⟨#[111,112,101,110]⟩,.slice a 0 c] w λe w'=>vh (some (0,[(jz s s.os.n:Int)])) w e w':=by
 obtain⟨l,q,b,x⟩:∃W,(w.alloc (.cells #[.slice p.ab p.nb p.cb,.slice p.sa p.ns p.cs] 25)).alloc (.cells s.cells 36)=W/\Bw w W/\jj W w.heap.size (w.heap.size+1) p s:=⟨_,rfl,dx _ _ _,ku w p s _ _⟩;have t:Hid (∀d,Bw l d->jj d w.heap.size (w.heap.size+1) p s/\p.At d/\s.At d/\Bw w d):=λd h=>⟨x.below h,(z.below b).below h,(hs.below b).below h,b.trans (h.mono b.size)⟩;unfold St.cells at q;have B:=hid q;have A:=hid r;clear q x b z hs r;unfold Pl.val St.val;go_enter func41,ntmps41;go_wp2_with fail;rw[B.o];refine(aem p s l (t.o l brf).2.2.1 A.o.fm).mono ?_;rintro e w1 ⟨rfl,o⟩;obtain⟨m,g,f,k⟩:∃W,w1.alloc (.cells #[.int .i64 ((jz s s.os.n:Nat):Int)] 3)=W/\Bw w1 W/\Blk W w1.heap.size 3 1 (λj=>(#[.int .i64 ((jz s s.os.n:Nat):Int)]:Array Value).getD j default):=⟨_,rfl,brf.alloc nlr _,Blk.mk' rfl rfl⟩;have v:=hid g;have u:Hid (j7 m (some ⟨w1.heap.size,0,none⟩) [(jz s s.os.n:Int)]/\Bw w m):=by
  refine⟨λi hi => ?_,(t.o m (o.trans (f.mono o.size))).2.2.2⟩;have y:i=0:=by simp at hi;exact hi
  subst y;exact⟨_,0,rfl,k.lt,k.cell (j:=0) Nat.zero_lt_one⟩
 clear g f k o;go_wp2_with fail;rw[v.o]
 go_ret3
 exact⟨⟨_,1,rfl,u.o.1⟩,u.o.2⟩
theorem Blk.below2(h:Blk w g e n f):Blk (w.drew.drew) g e n f:=h.below ((brf.drew).drew)
theorem ay2{X:Hd}(K:Blk w g e 3 (λj=>(#[.int .i64 X.l,.int .i64 X.b,.int .i64 X.n]:Array Value).getD j default))(j:Nat)(u:Value)(h:(ju (ny X))[j]?=some u):w.cell? ((⟨g,0,none⟩:Addr).add j)=some u:=by
 match j,h with
 | 0,h=>simp[ju,ny] at h;subst h;exact K.k 0
 | 1,h=>simp[ju,ny] at h;subst h;exact K.k 1
 | 2,h=>simp[ju,ny] at h;subst h;exact K.k 2
 | j+3,h=>simp[ju,ny] at h
theorem ars(p:Pl)(s:St)(a:Option Addr)(c:Nat)(x:Int)(w:World)(hp:p.At w)(hs:s.At w)(hi:j7 w a [x])(r:am p s)(q:Option (Int × List Int))(hq:q=if inB x 0 ((s.os.n:Int)-1) then some (0,m9 s x.toNat) else some (4,[])):
  Calls prog 41 #[p.val,s.val,.string ⟨#[111,114,100,101,114]⟩,.slice a 1 c] w λe w'=>vh q w e w':=by
 have HQ:Hid (q=if inB x 0 ((s.os.n:Int)-1) then some (0,m9 s x.toNat) else some (4,[])):=hq;clear hq;obtain⟨f,hW,hWB,X0⟩:∃W,(w.alloc (.cells #[.slice p.ab p.nb p.cb,.slice p.sa p.ns p.cs] 25)).alloc (.cells s.cells 36)=W/\Bw w W/\jj W w.heap.size (w.heap.size+1) p s:=⟨_,rfl,dx _ _ _,ku w p s _ _⟩;have HC:Hid (∀g,Bw f g->jj g w.heap.size (w.heap.size+1) p s/\p.At g/\s.At g/\Bw w g):=λg h=>⟨X0.below h,(hp.below hWB).below h,(hs.below hWB).below h,hWB.trans (h.mono hWB.size)⟩;unfold St.cells at hW;have HW:=hid hW;obtain⟨b,o,rfl,hb,hc⟩:=hi 0 Nat.zero_lt_one;have HX:Hid (∀g,Bw f g->g.cell? ⟨b,o,none⟩=some (.int .i64 x)/\b<g.heap.size):=λg h=>am5;have b3:=r.fm.os4;have bg:Hid (∀i,i<s.os.n->(s.os.z i).ls.n<=3):=λi hi=>(r.fm.lns i hi).2;clear hW X0 hWB hp hs hi hb hc r;unfold Pl.val St.val;go_enter func41,ntmps41;go_wp2_with fail;rw[HW.o];obtain⟨⟨⟨l1,d0,d1⟩,l2,c0,c1,c2,c3,c4,c5,c6⟩,J,m,D⟩:=HC.o f brf;obtain⟨Y,y1⟩:=HX.o f brf;have v1:=Qqq c1;have v2:=Qqq Y;clear J m D c0 c2 c3 c4 c5 c6 d0 d1 l1;refine Qxq ko ko ?_
 repeat(go_big_quiet_step(first|(go_at_call 34;exact Xxz ((da _ _ _ _).mono (λ_ _ h=>⟨h.1,h.2▸Below.refl _ _⟩)))))
 refine Qqz ?_;intro w9 hw9;have hB9:Bw f w9:=Xd;clear hw9 v1 v2 c1 l2 Y y1;cases hx:inB x 0 ((s.os.n:Int)-1)
 .exact avh
 have bt:=ar hx;have aw:q=some (0,m9 s x.toNat):=aat;clear HQ;obtain⟨i,rfl⟩:∃i:Nat,x=i:=⟨x.toNat,ow⟩;have T:i<s.os.n:=ow;have be:Hid (i<s.os.n):=T;have HQ2:Hid (q=some (0,m9 s i)):=aw;have ca:=bg.o i T;obtain⟨⟨⟨l1,d0,d1⟩,l2,c0,c1,c2,c3,c4,c5,c6⟩,J,m,D⟩:=HC.o w9 hB9;obtain⟨Y,y1⟩:=HX.o w9 hB9;obtain⟨rb,ro,ra,rl,ak,al,M⟩:=m.os.ods i T;rw[ra] at c1;have q0:(0:Int)<=(i:Int):=ow;have q1:(i:Int)<(s.os.n:Int):=ow;clear bt hx J m D M T aw c0 c2 c3 c4 c5 c6 d0 d1 l1;have v1:=Qqq c1;have v2:=Qqq Y;have v3:=Qqq ak;go_wp2_with fail;refine dg (λw'=>∃p:Regrown,w'=grow (redrawn w9 p.d) p.os) [0,1,2,3,4,5,6,7,8] [] [(false,9),(true,10),(true,11)] (Qqx (brf.drew)) ?_;simp only[jg]
 repeat(go_big_quiet_step(fail))
 refine Qqz ?_;clear v1 v2 v3 c1 Y y1 ak al rl l2;refine⟨λ_ _ _ _=>True,Qjq _,Qjq _,Qjq _,λV G U hS _ _ => ?_⟩;have H:=ae hS;clear hS;have bc:Hid ((s.os.z i).k=(s.os.z i).k):=rfl;obtain⟨t,ag⟩:∃t,(s.os.z i).k=t:=⟨_,rfl⟩;obtain⟨y,B,A⟩:∃W,U.alloc (.cells #[.int .i64 t] 3)=W/\Bw U W:=⟨_,rfl,brf.alloc nlr _⟩;have E:Hid (∀j u,[Value.int .i64 t][j]?=some u->y.cell? ((⟨U.heap.size,0,none⟩:Addr).add j)=some u):=by rw[<-B];exact Ue U _ _
 have F:Hid (U.alloc (.cells #[.int .i64 t] 3)=y):=B;have av:Hid (Bw w9 y):=H.trans (A.mono H.size);have Q:Hid (Bw f y):=hB9.trans ((H.trans (A.mono H.size)).mono hB9.size);have bf:Hid ((s.os.z i).k=t):=ag;obtain⟨iI,ay,az,a0,a1⟩:=info_parts Ad;rw[ag];clear B A H ag hB9 bc;simp only[dz];refine bu 9 rfl ?_;go_wp2_with fail;rw[F.o];refine⟨fw.no (Qqx av.o),?_⟩;refine bu 10 rfl ?_;go_wp2_with(at_builtin;refine wpList_append_own y rfl (.tmp 57) (.tmp 66) 23 rfl f.heap.size 3 iI (.int .i64 0) 1 8 underlying23 ay az a0 a1 rfl dc (.slice none 0 0) 0 [] rfl (World.ownsRow_nil _ _ _ _) ⟨U.heap.size,0,none⟩ 1 1 [.int .i64 t] rfl rfl E.o (λu hu=>Sj) uo ow Q.o.size ?_);intro v2 w6 L r2 _;obtain⟨a3,c3,rfl,-⟩:=wn L;have S:Hid (w6.ownsRow f.heap.size 3 1 (.slice a3 1 c3) 1 (ju [t])/\Bw f w6):=⟨L,(zm (World.ownsRow_nil y f.heap.size 3 1) r2).below Q.o nlr Q.o.size⟩;clear L r2 E F av Q;refine o6 ⟨fw.yes,?_⟩;refine bu 11 rfl ?_;go_wp2_with fail;refine⟨fw.yes,?_⟩;refine NoPanic.normal ?_;go_wp2_with fail
 go_loopw [11,13] (λov kv g=>∃(k n:Nat) (a:Option Addr) (c:Nat),k<=(s.os.z i).ls.n/\kv = .int .i64 k/\ov = .slice a n c/\Hid (n=1+3*k/\g.ownsRow f.heap.size 3 1 (.slice a n c) n (ju (t :: j6 (λj=>ny ((s.os.z i).ls.z j)) k))/\Bw f g)) (λ_ kv _=>(s.os.z i).ls.n-(intOf kv).toNat)
 case atStart=>exact⟨0,1,a3,c3,Qxz _,rfl,rfl,rfl,S.o⟩
 obtain⟨k,n,a4,c4,hk,rfl,rfl,HS⟩:=hrel;clear S;have aa:=HS.o.2.2;obtain⟨⟨⟨l1,d0,d1⟩,l2,c0,c1,c2,bl,bm,c5,c6⟩,J,m,D⟩:=HC.o wr aa;obtain⟨Y,y1⟩:=HX.o wr aa;have bb:Hid (Bw w wr):=D;obtain⟨rb,ro,a2,rl,ak,al,M⟩:=m.os.ods i be.o;rw[ra] at a2;cases a2;rw[ra] at c1;clear aa D J l1 d0 d1 c0 c2 bl bm c5 c6;by_cases bq:k<(s.os.z i).ls.n;rotate_left
 .have q4:¬(k:Int)<((s.os.z i).ls.n:Int):=ow;have ah:k=(s.os.z i).ls.n:=ow;have HF:Hid (j7 wr a4 (m9 s i)/\n=(m9 s i).length):=by
   have h:=HS.o;have hl:(m9 s i).length=n:=by rw[h.1,ah];exact ajh s i
   rw[<-bf.o,ah] at h;rw[<-hl] at h;exact⟨j7.owns h.2.1,hl.symm⟩
  clear m ah HS M;go_wp2_with fail
  go_region
  go_wp2_with fail
  go_ret3
  rw[HQ2.o];exact⟨⟨a4,c4,by rw[<-HF.o.2];rfl,HF.o.1.below (brf.drew)⟩,bb.o.drew⟩
 have q4:(k:Int)<((s.os.z i).ls.n:Int):=ow;have q5:(0:Int)<=(k:Int):=ow;obtain⟨hb,ho,ha,b9,h0,h1,h2,h3⟩:=M.hds k bq;rw[ha] at al;obtain⟨X,hX⟩:∃X,(s.os.z i).ls.z k=X:=⟨_,rfl⟩;rw[hX] at h0 h1 h2 h3;have bh:Hid ((s.os.z i).ls.z k=X):=hX;obtain⟨y,B,A⟩:∃W,(((wr.alloc (.cells #[.int .i64 X.o,.int .i64 X.l,.int .i64 X.b,.int .i64 X.n] 115)).alloc (.cells #[.int .i64 X.l,.int .i64 X.b,.int .i64 X.n] 3)).drew).drew=W/\Bw wr W:=⟨_,rfl,((dx _ _ _).drew).drew⟩;have F:=hid B;have E:Hid (∀j u,(ju (ny X))[j]?=some u->y.cell? ((⟨wr.heap.size+1,0,none⟩:Addr).add j)=some u):=by
  rw[<-B];have K:=Blk.new (wr.alloc (.cells #[.int .i64 X.o,.int .i64 X.l,.int .i64 X.b,.int .i64 X.n] 115)) #[.int .i64 X.l,.int .i64 X.b,.int .i64 X.n] 3;rw[show(wr.alloc (.cells #[.int .i64 X.o,.int .i64 X.l,.int .i64 X.b,.int .i64 X.n] 115)).heap.size=wr.heap.size+1 by simp] at K;exact ay2 K.below2
 have v:Hid (n=1+3*k/\y.ownsRow f.heap.size 3 1 (.slice a4 n c4) n (ju (t :: j6 (λj=>ny ((s.os.z i).ls.z j)) k))/\Bw f y):=⟨HS.o.1,ky HS.o.2.1 A,HS.o.2.2.trans (A.mono HS.o.2.2.size)⟩;have cc:n<=10:=aak;clear hX ha m M B A HS;go_wp2_with fail
 go_region
 go_wp2_with fail
 go_region
 go_wp2_with(at_builtin;rw[F.o];refine wpList_append_own y rfl (.tmp 92) (.tmp 99) 23 rfl f.heap.size 3 iI (.int .i64 0) 1 8 underlying23 ay az a0 a1 rfl dc (.slice a4 n c4) n (ju (t :: j6 (λj=>ny ((s.os.z i).ls.z j)) k)) rfl v.o.2.1 ⟨wr.heap.size+1,0,none⟩ 3 3 (ju (ny X)) rfl rfl E.o (λu hu=>by simp[ju,ny] at hu;rcases hu with rfl|rfl|rfl<;>rfl) uo ow v.o.2.2.size ?_);intro v2 w6 L r2 _;obtain⟨a5,ax,rfl,-⟩:=wn L;have S:Hid (n+3=1+3*(k+1)/\w6.ownsRow f.heap.size 3 1 (.slice a5 (n+3) ax) (n+3) (ju (t :: j6 (λj=>ny ((s.os.z i).ls.z j)) (k+1)))/\Bw f w6):=by
  refine⟨by have:=v.o.1;omega,?_,(zm v.o.2.1 r2).below v.o.2.2 nlr v.o.2.2.size⟩;rw[j6,bh.o];unfold ju at L ⊢;rw[List.map_cons,List.map_append];exact L
 clear L r2 v E F
 try simp only[Act.put,Qvq,Qwx,Qwz]
 go_wp2_with fail;go_roundw
 case rel=>exact⟨k+1,n+3,a5,ax,ow,vo,rfl,S.o⟩
 case measure=>simp[intOf];omega
theorem mf(l:List Int):∀n,l.length=n->l=(List.range n).map λj=>l.getD j 0:=λn h=>by
 subst h
 apply List.ext_getElem?
 intro i;rw[List.getElem?_map];by_cases hi:i<l.length
 .rw[List.getElem?_range hi,List.getElem?_eq_getElem hi];simp[List.getD,List.getElem?_eq_getElem hi]
 rw[List.getElem?_eq_none ow,List.getElem?_eq_none oq]
 rfl
theorem C1(t:List UInt8):(t=B0/\j5 t=1)\/(t=Hl/\j5 t=2)\/(t=B5/\j5 t=3)\/(t=Dm/\j5 t=4)\/(t=Ma/\j5 t=5)\/(t=L9/\j5 t=6)\/(t=Hm/\j5 t=7)\/(t=Hk/\j5 t=8)\/(t=Tn/\j5 t=9)\/(t=Tm/\j5 t=10)\/(t=Tj/\j5 t=11)\/(t=Tl/\j5 t=12)\/(t=Xn/\j5 t=13)\/(¬t=B0/\¬t=Hl/\¬t=B5/\¬t=Dm/\¬t=Ma/\¬t=L9/\¬t=Hm/\¬t=Hk/\¬t=Tn/\¬t=Tm/\¬t=Tj/\¬t=Tl/\¬t=Xn/\j5 t=0):=by
 by_cases e:t=B0
 .subst e;exact Or.inl ⟨rfl,rfl⟩
 by_cases f:t=Hl
 .subst f;exact Or.inr (Or.inl ⟨rfl,rfl⟩)
 by_cases g:t=B5
 .subst g;exact Or.inr (Or.inr (Or.inl ⟨rfl,rfl⟩))
 by_cases h:t=Dm
 .subst h;exact Or.inr (Or.inr (Or.inr (Or.inl ⟨rfl,rfl⟩)))
 by_cases i:t=Ma
 .subst i;exact Or.inr (Or.inr (Or.inr (Or.inr (Or.inl ⟨rfl,rfl⟩))))
 by_cases j:t=L9
 .subst j;exact Or.inr (Or.inr (Or.inr (Or.inr (Or.inr (Or.inl ⟨rfl,rfl⟩)))))
 by_cases k:t=Hm
 .subst k;exact Or.inr (Or.inr (Or.inr (Or.inr (Or.inr (Or.inr (Or.inl ⟨rfl,rfl⟩))))))
 by_cases h8:t=Hk
 .subst h8;exact Or.inr (Or.inr (Or.inr (Or.inr (Or.inr (Or.inr (Or.inr (Or.inl ⟨rfl,rfl⟩)))))))
 by_cases l:t=Tn
 .subst l;exact Or.inr (Or.inr (Or.inr (Or.inr (Or.inr (Or.inr (Or.inr (Or.inr (Or.inl ⟨rfl,rfl⟩))))))))
 by_cases a:t=Tm
 .subst a;exact Or.inr (Or.inr (Or.inr (Or.inr (Or.inr (Or.inr (Or.inr (Or.inr (Or.inr (Or.inl ⟨rfl,rfl⟩)))))))))
 by_cases b:t=Tj
 .subst b;exact Or.inr (Or.inr (Or.inr (Or.inr (Or.inr (Or.inr (Or.inr (Or.inr (Or.inr (Or.inr (Or.inl ⟨rfl,rfl⟩))))))))))
 by_cases c:t=Tl
 .subst c;exact Or.inr (Or.inr (Or.inr (Or.inr (Or.inr (Or.inr (Or.inr (Or.inr (Or.inr (Or.inr (Or.inr (Or.inl ⟨rfl,rfl⟩)))))))))))
 by_cases d:t=Xn
 .subst d;exact Or.inr (Or.inr (Or.inr (Or.inr (Or.inr (Or.inr (Or.inr (Or.inr (Or.inr (Or.inr (Or.inr (Or.inr (Or.inl ⟨rfl,rfl⟩))))))))))))
 refine Or.inr (Or.inr (Or.inr (Or.inr (Or.inr (Or.inr (Or.inr (Or.inr (Or.inr (Or.inr (Or.inr (Or.inr (Or.inr ⟨e,f,g,h,i,j,k,h8,l,a,b,c,d,?_⟩))))))))))));unfold j5;rw[if_neg e,if_neg f,if_neg g,if_neg h,if_neg i,if_neg j,if_neg k,if_neg h8,if_neg l,if_neg a,if_neg b,if_neg c,if_neg d]
theorem awi(w:World):jt.At w:=⟨Nat.le_refl _,Qxz _,λi hi=>absurd hi (Qzq _),λ_=>rfl⟩
def awy(q:Option Ax)(w:World)(e:Ending)(w':World):Prop :=
 (∃x y,q=some x/\ux y x/\y.ls.At w'/\e = .returned (.tuple #[y.val,.bool true])/\Bw w w')\/(q=none/\Dn w e w')
theorem ah0(t:List UInt8)(a:Option Addr)(c:Nat)(l:List Int)(w:World)(hi:j7 w a l)(G:l.length<=100000):
  Calls prog 39 #[.string ⟨t.toArray⟩,.slice a l.length c] w λe w'=>awy (tn (j5 t) l) w e w':=by
 rcases C1 t with⟨rfl,b⟩|⟨rfl,b⟩|⟨rfl,b⟩|⟨rfl,b⟩|⟨rfl,b⟩|⟨rfl,b⟩|⟨rfl,b⟩|⟨rfl,b⟩|⟨rfl,b⟩|⟨rfl,b⟩|⟨rfl,b⟩|⟨rfl,b⟩|⟨rfl,b⟩|⟨s,n2,u,v,x,y,z,A,H,B,D,E,F,b⟩
 .rw[b];by_cases h:l.length=3
  .obtain⟨f,g,i,rfl⟩:∃f g i,l=[f,g,i]:=⟨_,_,_, mf l 3 h⟩;refine(avt a c f g i w hi).mono ?_;exact Hg
  exact(ah1 a c l w h).mono λe w' d=>Or.inr ⟨if_neg h,d⟩
 .rw[b];by_cases h:l.length%2=0/\2<=l.length/\l.length<=6
  .refine(avu a c l w hi h.1 h.2).mono ?_;rintro e w' ⟨ls,k,n,o,p,q⟩;refine Or.inl ⟨_,⟨2,0,0,0,0,ls⟩,if_pos h,⟨rfl,rfl,rfl,rfl,rfl,n,λj _=>by rw[o]⟩,p.at,k,q⟩
  exact(ah2 a c l w h).mono λe w' d=>Or.inr ⟨if_neg h,d⟩
 .rw[b];by_cases h:l.length=0
  .obtain rfl:l=[]:=List.eq_nil_of_length_eq_zero h;refine(avv a c  w).mono ?_;exact Hg
  exact(ah3 a c l w h).mono λe w' d=>Or.inr ⟨if_neg h,d⟩
 .rw[b];by_cases h:l.length=1
  .obtain⟨f,rfl⟩:∃f,l=[f]:=⟨_, mf l 1 h⟩;refine(avw a c f w hi).mono ?_;exact Hg
  exact(ah4 a c l w h).mono λe w' d=>Or.inr ⟨if_neg h,d⟩
 .rw[b];by_cases h:l.length=4
  .obtain⟨f,g,i,m,rfl⟩:∃f g i m,l=[f,g,i,m]:=⟨_,_,_,_, mf l 4 h⟩;refine(avx a c f g i m w hi).mono ?_;exact Hg
  exact(ah5 a c l w h).mono λe w' d=>Or.inr ⟨if_neg h,d⟩
 .rw[b];by_cases h:l.length=0
  .obtain rfl:l=[]:=List.eq_nil_of_length_eq_zero h;refine(avy a c  w).mono ?_;exact Hg
  exact(ah6 a c l w h).mono λe w' d=>Or.inr ⟨if_neg h,d⟩
 .rw[b];by_cases h:l.length=2
  .obtain⟨f,g,rfl⟩:∃f g,l=[f,g]:=⟨_,_, mf l 2 h⟩;refine(avz a c f g w hi).mono ?_;exact Hg
  exact(ah7 a c l w h).mono λe w' d=>Or.inr ⟨if_neg h,d⟩
 .rw[b];by_cases h:l.length=3
  .obtain⟨f,g,i,rfl⟩:∃f g i,l=[f,g,i]:=⟨_,_,_, mf l 3 h⟩;refine(av0 a c f g i w hi).mono ?_;exact Hg
  exact(ah8 a c l w h).mono λe w' d=>Or.inr ⟨if_neg h,d⟩
 .exact N4
 .exact N4
 .exact N4
 .exact N4
 .exact N4
 rw[b];exact(Uz t a c l w s n2 u v x y z A).mono λe w' d=>Or.inr ⟨rfl,d⟩
theorem V9(p:Pl)(s:St)(t:List UInt8)(a:Option Addr)(c:Nat)(l:List Int)(w:World)(f:p.At w)(hs:s.At w)(r:am p s)(hi:j7 w a l):
  Calls prog 41 #[p.val,s.val,.string ⟨t.toArray⟩,.slice a l.length c] w λe w'=>vh (fe p s (j5 t) l) w e w':=by
 rcases C1 t with⟨rfl,b⟩|⟨rfl,b⟩|⟨rfl,b⟩|⟨rfl,b⟩|⟨rfl,b⟩|⟨rfl,b⟩|⟨rfl,b⟩|⟨rfl,b⟩|⟨rfl,b⟩|⟨rfl,b⟩|⟨rfl,b⟩|⟨rfl,b⟩|⟨rfl,b⟩|⟨n,n2,o,q,u,v,y,z,m,g,i,j,k,b⟩
 .exact Ep
 .exact Ep
 .exact Ep
 .exact Ep
 .exact Ep
 .exact Ep
 .exact Ep
 .exact Ep
 .rw[b];by_cases h:l.length=1
  .obtain⟨x,rfl⟩:∃x,l=[x]:=⟨_,mf l 1 h⟩;exact aws p s a c x w f hs hi r _ rfl
  have d:fe p s 9 l=none:=if_neg h;rw[d];exact ajz p s a c l w h
 .rw[b];by_cases h:l.length=1
  .obtain⟨x,rfl⟩:∃x,l=[x]:=⟨_,mf l 1 h⟩;exact ars p s a c x w f hs hi r _ rfl
  have d:fe p s 10 l=none:=if_neg h;rw[d];exact agf p s a c l w h
 .rw[b];by_cases h:l.length=0
  .obtain rfl:l=[]:=List.eq_nil_of_length_eq_zero h;exact art p s a c w f hs (by have:=r.fm.hs72;omega)
  have d:fe p s 11 l=none:=if_neg h;rw[d];exact agh p s a c l w h
 .rw[b];by_cases h:l.length=0
  .obtain rfl:l=[]:=List.eq_nil_of_length_eq_zero h;exact aru p s a c w f hs (by have:=r.fm.ms8;omega)
  have d:fe p s 12 l=none:=if_neg h;rw[d];exact agi p s a c l w h
 .rw[b];by_cases h:l.length=0
  .obtain rfl:l=[]:=List.eq_nil_of_length_eq_zero h;exact arv p s a c w f hs r
  have d:fe p s 13 l=none:=if_neg h;rw[d];exact agj p s a c l w h
 rw[b];exact Wa p s t a c l w m g i j k
theorem Jh{c:Prop}[Decidable c]{a b:Int}(d:0<=a/\a<=8)(e:0<=b/\b<=8):0<=(if c then a else b)/\(if c then a else b)<=8:=by split<;>assumption
section
variable {p:Pl} {s:St}
theorem Yo(r:am p s)(x:Ax):0<=doE p s x/\doE p s x<=8:=by
 have a:=js r;refine Yp (λE _=>0<=E/\E<=8) ?_ ?_ ?_ ?_ ?_ ?_ ?_ ?_ ?_
 .intro _;unfold ic;rw[if_pos a];repeat' (first|decide|refine Jh ?_ ?_)
 .intro _;unfold ib;rw[if_pos a];repeat' (first|decide|refine Jh ?_ ?_)
 .intro _;rw[a];decide
 .intro _;unfold gy;rw[if_pos a];repeat' (first|decide|refine Jh ?_ ?_)
 .intro _;unfold ji;rw[if_pos a];repeat' (first|decide|refine Jh ?_ ?_)
 .intro _;rw[a];decide
 .intro _;unfold gj;rw[if_pos a];repeat' (first|decide|refine Jh ?_ ?_)
 .intro _;unfold fs;rw[if_pos a];repeat' (first|decide|refine Jh ?_ ?_)
 intros;decide
theorem Ga{f:Nat->List Int}{m:Nat}:∀{n:Nat},(∀i,i<n->(f i).length<=m)->(j6 f n).length<=m*n
 | 0,_=>Qxz _
 | n+1,h=>by
  have a:=Ga (n:=n) λi hi=>h i ow;have b:=h n ow;rw[j6,List.length_append,Nat.mul_succ];omega
theorem ad2{x:Hd}(h:(0<=x.o/\x.o<=999999)/\(0<=x.l/\x.l<=999999)/\(0<=x.b/\x.b<=999999)/\0<=x.n/\x.n<=999999):∀y∈ou x,0<=y/\y<=999999:=by
 intro y a;simp only[ou,List.mem_cons,List.not_mem_nil,or_false] at a;rcases a with rfl|rfl|rfl|rfl
 .exact h.1
 .exact h.2.1
 .exact h.2.2.1
 exact h.2.2.2
theorem rh(r:am p s){k:Nat}{l:List Int}{e:Int}{out:List Int}(h:fe p s k l=some (e,out)):(e=0\/e=4/\out=[])/\out.length<=400/\∀x∈out,0<=x/\x<=999999:=by
 have f:=r.fm;have pl:=f.sh.pl;have nb6:=pl.nb6;have ns3:=pl.ns3;unfold fe at h;by_cases w:k=9
 .rw[if_pos w] at h;by_cases a:l.length=1;rotate_left
  .exact N8
  rw[if_pos a] at h;cases b:inB (l.getD 0 0) 0 ((p.nb:Int)-1)
  .exact aoa
  rw[b] at h;cases h;have u:=ar b;have hi:(l.getD 0 0).toNat<s.on.n:=by rw[f.sh.n];omega
  have y:=f.sh.len _ hi;refine⟨Or.inl rfl,?_,λx hx => ?_⟩
  .have:=Ga (f:=λg=>[(s.on.r (l.getD 0 0).toNat).z g]) (m:=1) (n:=(s.on.r (l.getD 0 0).toNat).n) (λ_ _=>Nat.le_refl _);unfold ua;omega
  obtain⟨i,v,hx⟩:=Gc hx;rw[List.mem_singleton] at hx;have:=f.sh.num _ hi i (by rw[<-y];exact v);omega
 rw[if_neg w] at h;by_cases d:k=10
 .rw[if_pos d] at h;by_cases a:l.length=1;rotate_left
  .exact N8
  rw[if_pos a] at h;cases b:inB (l.getD 0 0) 0 ((s.os.n:Int)-1)
  .exact aoa
  rw[b] at h;cases h;have u:=ar b;have hi:(l.getD 0 0).toNat<s.os.n:=ow;have B:=f.lns _ hi;refine⟨Or.inl rfl,?_,λx hx => ?_⟩
  .have:=Ga (f:=λj=>ny ((s.os.z (l.getD 0 0).toNat).ls.z j)) (m:=3) (n:=(s.os.z (l.getD 0 0).toNat).ls.n) (λ_ _=>Nat.le_refl _);unfold m9;rw[List.length_cons];omega
  unfold m9 at hx;rcases List.mem_cons.1 hx with rfl|hx
  .have:=f.kind _ hi;omega
  obtain⟨j,c,hx⟩:=Gc hx;obtain⟨-,b2,b3,b4⟩:=fi (f.line _ hi j c);simp only[ny,List.mem_cons,List.not_mem_nil,or_false] at hx;rcases hx with rfl|rfl|rfl<;>omega
 rw[if_neg d] at h;by_cases o:k=11
 .rw[if_pos o] at h;by_cases a:l.length=0
  .rw[if_pos a] at h;cases h;have A:=f.hs72;refine⟨Or.inl rfl,?_,λx hx => ?_⟩
   .have:=Ga (f:=λj=>ou (s.hs.z j)) (m:=4) (n:=s.hs.n) (λ_ _=>Nat.le_refl _);unfold xi;omega
   obtain⟨j,c,hx⟩:=Gc hx;obtain⟨b1,b2,b3,b4⟩:=cw (cd f.hold j c);exact ad2 ow x hx
  exact N8
 rw[if_neg o] at h;by_cases q:k=12
 .rw[if_pos q] at h;by_cases a:l.length=0
  .rw[if_pos a] at h;cases h;have h8:=f.ms8;refine⟨Or.inl rfl,?_,λx hx => ?_⟩
   .have:=Ga (f:=λj=>ou (s.ms.z j)) (m:=4) (n:=s.ms.n) (λ_ _=>Nat.le_refl _);unfold xj;omega
   obtain⟨j,c,hx⟩:=Gc hx;obtain⟨b1,b2,b3,b4,b5⟩:=sl (f.move j c);exact ad2 ow x hx
  exact N8
 rw[if_neg q] at h;by_cases t:k=13
 .rw[if_pos t] at h;by_cases a:l.length=0
  .rw[if_pos a] at h;cases h;refine⟨Or.inl rfl,vq,λx hx => ?_⟩;rw[List.mem_singleton] at hx;have:=Ky s s.os.n;have:=f.os4;omega
  exact N8
 rw[if_neg t] at h;cases h
theorem M3{t x:List UInt8}{a:List (List UInt8)}(h:fc 32 [] t=x :: a)(b:py a=none):ij p s t=pa 1/\jh p s t=s:=by
 unfold ij jh Ff;rw[h,List.tail_cons,b];exact⟨rfl,rfl⟩
theorem M6{t x:List UInt8}{a:List (List UInt8)}{l:List Int}(h:fc 32 [] t=x :: a)(b:py a=some l):Ff p s t=yx p s (j5 x) l:=by
 unfold Ff;rw[h,List.tail_cons,b]
 rfl
theorem Kd{t x:List UInt8}{b:List (List UInt8)}{l:List Int}{a:Ax}(h:fc 32 [] t=x :: b)(d:py b=some l)(c:tn (j5 x) l=some a):
  (doE p s a=0->ij p s t=okL/\jh p s t=doT p s a)/\(¬doE p s a=0->ij p s t=pa (doE p s a)/\jh p s t=s):=by
 unfold ij jh;rw[M6 h d];unfold yx;rw[c];refine⟨λe => ?_,λe => ?_⟩
 .simp only[if_pos e];exact⟨if_pos trivial,trivial⟩
 simp only[if_neg e];exact⟨trivial,trivial⟩
theorem Ok{t x:List UInt8}{a:List (List UInt8)}{l:List Int}(h:fc 32 [] t=x :: a)(c:py a=some l)(b:tn (j5 x) l=none)(hs:fe p s (j5 x) l=none):ij p s t=pa 1/\jh p s t=s:=by
 unfold ij jh;rw[M6 h c];unfold yx;rw[b,hs];exact⟨rfl,rfl⟩
theorem Ec{t x:List UInt8}{a:List (List UInt8)}{l out:List Int}{e:Int}(h:fc 32 [] t=x :: a)(c:py a=some l)(b:tn (j5 x) l=none)(hs:fe p s (j5 x) l=some (e,out)):
  (e=0->ij p s t=l7 out)/\(¬e=0->ij p s t=pa e)/\jh p s t=s:=by
 unfold ij jh;rw[M6 h c];unfold yx;rw[b,hs];exact⟨λe0=>if_pos e0,λe0=>if_neg e0,rfl⟩
end
def aza(w:World)(b:Nat)(x:Ax):Prop:=w.cell? ⟨b,0,none⟩=some (.int .i64 x.k)/\w.cell? ⟨b,1,none⟩=some (.int .i64 x.a)/\w.cell? ⟨b,2,none⟩=some (.int .i64 x.b)/\w.cell? ⟨b,3,none⟩=some (.int .i64 x.c)/\w.cell? ⟨b,4,none⟩=some (.int .i64 x.n)/\w.cell? ⟨b,5,none⟩=some (.slice x.ls.a x.ls.n x.ls.c)/\b<w.heap.size
def aw3(w:World)(b:Nat):Prop:=b<w.heap.size/\w.frozen? ⟨b,0,none⟩=false/\w.cell? ⟨b,0,none⟩=some (.slice .none 0 0)/\w.frozen? ⟨b,1,none⟩=false/\w.cell? ⟨b,1,none⟩=some (.slice .none 0 0)/\w.frozen? ⟨b,2,none⟩=false/\w.cell? ⟨b,2,none⟩=some (.slice .none 0 0)/\w.frozen? ⟨b,3,none⟩=false/\w.cell? ⟨b,3,none⟩=some (.slice .none 0 0)/\w.frozen? ⟨b,4,none⟩=false/\w.cell? ⟨b,4,none⟩=some (.slice .none 0 0)/\w.frozen? ⟨b,5,none⟩=false/\w.cell? ⟨b,5,none⟩=some (.slice .none 0 0)/\w.frozen? ⟨b,6,none⟩=false/\w.cell? ⟨b,6,none⟩=some (.slice .none 0 0)
theorem ain(p:Pl)(s:St)(x:Ax)(w:World)(m:p.At w)(hs:s.At w)(hx:x.ls.At w):∃f,Hid ((((w.alloc (.cells #[.slice p.ab p.nb p.cb,.slice p.sa p.ns p.cs] 25)).alloc (.cells #[.slice s.on.a s.on.n s.on.c,.slice s.os.a s.os.n s.os.c,.slice s.hs.a s.hs.n s.hs.c,.slice s.ms.a s.ms.n s.ms.c,.slice s.si.a s.si.n s.si.c,.slice s.so.a s.so.n s.so.c,.slice s.sf.a s.sf.n s.sf.c] 36)).alloc (.cells #[.int .i64 x.k,.int .i64 x.a,.int .i64 x.b,.int .i64 x.c,.int .i64 x.n,.slice x.ls.a x.ls.n x.ls.c] 77)).alloc (.cells #[.slice .none 0 0,.slice .none 0 0,.slice .none 0 0,.slice .none 0 0,.slice .none 0 0,.slice .none 0 0,.slice .none 0 0] 36)=f) /\
  Hid (∀g,Bw f g->jj g w.heap.size (w.heap.size+1) p s/\p.At g/\s.At g/\Bw w g/\Blk g (w.heap.size+3) 36 7 (λ_ => .slice .none 0 0)/\Blk g (w.heap.size+2) 77 6 (λj=>x.cells.getD j default)/\x.ls.At g) /\
  Hid (p.At f/\s.At f/\x.ls.At f)/\Hid (w.heap.size<=f.heap.size)/\jj f w.heap.size (w.heap.size+1) p s/\aza f (w.heap.size+2) x/\aw3 f (w.heap.size+3):=by
 obtain⟨f,o,e,l,i,d⟩:∃W,(((w.alloc (.cells #[.slice p.ab p.nb p.cb,.slice p.sa p.ns p.cs] 25)).alloc (.cells s.cells 36)).alloc (.cells x.cells 77)).alloc (.cells #[.slice .none 0 0,.slice .none 0 0,.slice .none 0 0,.slice .none 0 0,.slice .none 0 0,.slice .none 0 0,.slice .none 0 0] 36)=W/\Bw w W/\jj W w.heap.size (w.heap.size+1) p s/\Blk W (w.heap.size+2) 77 6 (λj=>x.cells.getD j default)/\Blk W (w.heap.size+3) 36 7 (λ_ => .slice .none 0 0):=
  ⟨_,rfl,((dx _ _ _).alloc oq _).alloc oq _,((ku w p s _ _).below (brf.alloc nlr _)).below (brf.alloc nlr _),(Blk.mk' (cur:=x.cells) vq rfl).alloc _,(Blk.mk' (cur:=#[.slice .none 0 0,.slice .none 0 0,.slice .none 0 0,.slice .none 0 0,.slice .none 0 0,.slice .none 0 0,.slice .none 0 0]) vq rfl).congr (λj q=>by match j,q with|0,_=>rfl|1,_=>rfl|2,_=>rfl|3,_=>rfl|4,_=>rfl|5,_=>rfl|6,_=>rfl)⟩
 exact⟨f,o,λg h=>⟨l.below h,(m.below e).below h,(hs.below e).below h,e.trans (h.mono e.size),d.below h,i.below h,(hx.below e).below h⟩,⟨m.below e,hs.below e,hx.below e⟩,e.size,l,⟨i.k 0,i.k 1,i.k 2,i.k 3,i.k 4,i.k 5,i.lt⟩,d.lt,d.frozen 0,d.k 0,d.frozen 1,d.k 1,d.frozen 2,d.k 2,d.frozen 3,d.k 3,d.frozen 4,d.k 4,d.frozen 5,d.k 5,d.frozen 6,d.k 6⟩
structure Il(p:Pl)(s y0:St)(A B7:Nat)(W0:World)(cur:St)(wk:World):Prop where
 own0:ah A wk y0
 own:ah A wk cur
 box:Blk wk B7 36 7 (λj=>cur.cells.getD j default)
 bel:Bw W0 wk
 le:A<=wk.heap.size
theorem Il.below{f cur:St}{c e:World}(h:Il p s f A b c cur e)(a:Bw e d):Il p s f A b c cur d :=
 ⟨h.own0.below a,h.own.below a,h.box.below a,h.bel.trans (a.mono h.bel.size),Qzx h.le a.size⟩
def Ar(p:Pl)(s:St)(i:Nat)(cur:St):Prop:=jc p (-1) (xo s) (Cs s) (du s s.os.n) i cur
def ze(p:Pl)(s:St)(i j:Nat)(cur:St):Prop:=∃y,Ar p s i y/\na p (-1) (xo s) i y j cur
theorem ze.next{cur:St}(h:ze p s i (s.os.z i).ls.n cur):Ar p s (i+1) cur:=h
theorem Ar.row{cur:St}(h:Ar p s i cur):ze p s i 0 cur:=⟨cur,h,rfl⟩
theorem Ar.skip{cur:St}(r:am p s)(h:Ar p s i cur)(hi:i<s.os.n)(c:¬((du s s.os.n).os.z i).k=1):Ar p s (i+1) cur :=
 ⟨cur,h,na.skip (Ak r) (jc.pos (Ak r) (λa _=>rj s a) (Nat.le_of_lt hi) h) hi (Nat.le_of_eq (rj s i)) λb _=>if_neg c⟩
theorem ze.pos{cur:St}(r:am p s)(h:ze p s i j cur)(hi:i<s.os.n)(d:j<=(s.os.z i).ls.n):Pos p (-1) (xo s) (du s s.os.n) i j cur:=by
 obtain⟨y,b,c⟩:=h;exact na.pos (Ak r) (jc.pos (Ak r) (λa _=>rj s a) (Nat.le_of_lt hi) b) hi (by rw[<-rj];exact d) c
theorem ze.stepIn{cur:St}(r:am p s)(h:ze p s i j cur)(hi:i<s.os.n)(a:j<(s.os.z i).ls.n):lf p (-1) cur i j (xo s i j):=
 (h.pos r hi (Nat.le_of_lt a)).stepIn (Ak r) hi (by rw[<-rj];exact a)
theorem ze.step{cur:St}(h:ze p s i j cur)(T:ng p (-1) cur i j (xo s i j) x):ze p s i (j+1) x:=by
 obtain⟨y,a,b⟩:=h;exact⟨y,a,cur,b,T⟩
theorem ac0(p:Pl)(s:St)(w:World)(hp:p.At w)(hs:s.At w):
  Calls prog 92 #[p.val,s.val] w λe w'=>∃x:St,e = .returned (.tuple #[x.val,.int .i64 (ag p s)])/\x.At w'/\J4 p s x/\(ag p s=0->ah w.heap.size w' x)/\Bw w w':=by
 obtain⟨r,hW,B,X0,Z0⟩:∃W,(((w.alloc (.cells #[.slice p.ab p.nb p.cb,.slice p.sa p.ns p.cs] 25)).alloc (.cells s.cells 36)).alloc (.cells #[.slice .none 0 0,.slice .none 0 0,.slice .none 0 0,.slice .none 0 0,.slice .none 0 0,.slice .none 0 0,.slice .none 0 0] 36))=W/\Bw w W/\jj W w.heap.size (w.heap.size+1) p s/\Blk W (w.heap.size+2) 36 7 (λ_ => .slice .none 0 0):=
  ⟨_,rfl,(dx _ _ _).alloc oq _,(ku w p s _ _).below ((Below.refl _ _).alloc (Nat.le_refl _) _),(Blk.mk' (cur:=#[.slice .none 0 0,.slice .none 0 0,.slice .none 0 0,.slice .none 0 0,.slice .none 0 0,.slice .none 0 0,.slice .none 0 0]) vq rfl).congr (λj hj=>by match j,hj with|0,_=>rfl|1,_=>rfl|2,_=>rfl|3,_=>rfl|4,_=>rfl|5,_=>rfl|6,_=>rfl)⟩
 have HC:Hid (∀f,Bw r f->jj f w.heap.size (w.heap.size+1) p s/\p.At f/\s.At f/\Bw w f/\Blk f (w.heap.size+2) 36 7 (λ_ => .slice .none 0 0)):=λf h=>⟨X0.below h,(hp.below B).below h,(hs.below B).below h,B.trans (h.mono B.size),Z0.below h⟩;unfold St.cells at hW;have S:=hid hW;have leb:=hp.leb;have bf:=hp.capb;have les:=hp.les;have bg:=hp.caps;have capb:=bf;have caps:=bg;have ei:=Z0.lt;unfold maxLen at capb caps;clear hW X0 Z0 hp hs;unfold Pl.val St.val;go_enter func92,ntmps92;go_wp2_with fail;rw[S.o];obtain⟨X,u,A,q,E⟩:=HC.o r (Below.refl _ _);refine(l8 p s r u A).mono ?_;rintro e w1 ⟨rfl,hB⟩;clear X u A q E S;obtain⟨⟨⟨l1,d0,d1⟩,l2,c0,c1,c2,c3,c4,c5,c6⟩,u,A,q,E⟩:=HC.o w1 hB;by_cases h0:ag p s=0;rotate_left
 .have HNE:=hid h0;have g0:(ag p s !=0)=true:=qh;clear h0 u A;obtain⟨zl,cg,ce,ch,zc1,ci,zc2,cj,zc3,ck,zc4,cl,zc5,cm,cf⟩:=z7 E;go_wp2_with fail;have KZ:=n7b E;have hbz:=n7w (b:=w.heap.size+2) q ow;unfold set7 at KZ hbz;obtain⟨ax,ay,az,a0,a1,a2,a3⟩:=dp KZ;refine Xzq (v := .tuple #[mw.val,.int .i64 (ag p s)]) (by simp[results,results92,go_sem,mw,St.val,ax,ay,az,a0,a1,a2,a3]) rfl ?_;exact amq
 have H0:=hid h0;have HR:Hid (am p s):=et h0;rw[h0];clear h0;have bu:Hid (Calls prog 127 #[s.val] w1 λe w'=>∃s':St,e = .returned s'.val/\af s' s/\ah w1.heap.size w' s'/\Bw w1 w'):=pv p s w1 A HR.o.fm;clear u A q E;go_wp2_with fail;refine Calls.mono bu.o ?_;rintro e w4 ⟨x0,rfl,hsame,J,M⟩;clear bu l1 d0 d1 l2 c0 c1 c2 c3 c4 c5 c6;obtain⟨W5,b6,D,K5⟩:∃W,w4.alloc (.cells #[.slice x0.on.a x0.on.n x0.on.c,.slice x0.os.a x0.os.n x0.os.c,.slice x0.hs.a x0.hs.n x0.hs.c,.slice x0.ms.a x0.ms.n x0.ms.c,.slice x0.si.a x0.si.n x0.si.c,.slice x0.so.a x0.so.n x0.so.c,.slice x0.sf.a x0.sf.n x0.sf.c] 36)=W/\Bw w4 W/\Blk W w4.heap.size 36 7 (λj=>x0.cells.getD j default):=⟨_,rfl,(Below.refl _ _).alloc (Nat.le_refl _) _,Blk.mk' rfl rfl⟩;have av:=hid b6;have U:=M.trans (D.mono M.size);have b3:=hB.trans (U.mono hB.size);have bz:Hid (ah w1.heap.size W5 (du x0 0)):=by show ah w1.heap.size W5 (du x0 0);rw[V7];exact ah.below J D
 have HS0:=hid hsame;have s1:=K5.cell (j:=1) dc;have cc:W5.cell? ⟨w4.heap.size,1,none⟩=some (.slice x0.os.a x0.os.n x0.os.c):=s1;have s2:=K5.lt;have bx:=hid K5;have bs:=hid b3;have A1:r.heap.size<=w1.heap.size:=hB.size;have A2:w1.heap.size<=w4.heap.size:=M.size;have A3:w1.heap.size<=W5.heap.size:=U.size;have df:w1.heap.size<=w4.heap.size:=M.size;have ol:x0.os.n<=x0.os.c:=(ah.below J D).os.le;have oc:x0.os.c<=maxLen:=(ah.below J D).os.cap;unfold maxLen at oc;have dy:x0.os.n<=4:=akf;rw[<-av.o] at cc s2;clear b6 J K5 M D U b3 hsame hB s1;simp only[St.val];go_wp2_with fail;rw[av.o];clear cc s2 av
 generalize w4.heap.size=g at *
 go_loopw [25] (λY f=>∃k:Nat,k<=x0.os.n/\Y = .int .i64 k/\Hid (ah w1.heap.size f (du x0 k))/\Hid (Blk f g 36 7 (λj=>x0.cells.getD j default))/\Hid (Bw r f)/\Hid (w1.heap.size<=f.heap.size)) (λY _=>x0.os.n-(intOf Y).toNat)
 case atStart=>exact⟨0,Qxz _,rfl,bz,bx,bs,A3⟩
 clear bz bx bs A3;obtain⟨k,hk,rfl,H,t,ac,L⟩:=hrel;by_cases hlt:k<x0.os.n
 .have q0:(0:Int)<=(k:Int):=ow;have q1:(k:Int)<(x0.os.n:Int):=ow;obtain⟨gO,g1,g2,g3⟩:=H.o.os.list Sn;have b2:x0.os.a=some ⟨gO,0,none⟩:=g1;have HG:Hid ((du x0 k).os.a=some ⟨gO,0,none⟩):=g1;have u1:wr.cell? ⟨g,1,none⟩=some (.slice x0.os.a x0.os.n x0.os.c):=t.o.cell (j:=1) dc;rw[b2] at u1;have u2:=t.o.lt;have u3:=g3.lt;have bt:Hid (∀j,j<((du x0 k).os.z k).ls.n->(0<=(((du x0 k).os.z k).ls.z j).l/\(((du x0 k).os.z k).ls.z j).l<=200)/\0<=(((du x0 k).os.z k).ls.z j).b/\(((du x0 k).os.z k).ls.z j).b<=200):=by
   show ∀j,j<(iw k k (x0.os.z k)).ls.n->(0<=((iw k k (x0.os.z k)).ls.z j).l/\((iw k k (x0.os.z k)).ls.z j).l<=200)/\0<=((iw k k (x0.os.z k)).ls.z j).b/\((iw k k (x0.os.z k)).ls.z j).b<=200;rw[yr _ (Nat.le_refl _)];intro j hj;have e:=HS0.o.os.2 k hlt;have hl:=fi (HR.o.fm.line k ak6 j aao);rw[e.2.2 j hj];omega
  clear g1 b2 g3;go_wp2_with fail;refine(adr (du x0 k) k w1.heap.size gO wr L.o H.o hlt HG.o bt.o).mono ?_;rintro e w6 ⟨y,rfl,d,y1,a7,a5,b4⟩;have HN:Hid (ah w1.heap.size w6 (du x0 (k+1))/\Blk w6 g 36 7 (λj=>x0.cells.getD j default)/\Bw r w6/\w1.heap.size<=w6.heap.size):=by
   refine⟨?_,b4 _ _ _ _ dc dc t.o,ac.o.trans (a5.mono A1),Qzx L.o a5.size⟩;have e:((du x0 k).os.z k).k=(x0.os.z k).k:=by show(iw k k (x0.os.z k)).k=_;rw[yr _ (Nat.le_refl _)]
   by_cases c:(x0.os.z k).k=0
   .rw[<-Zt c,<-d (by rw[e];exact c)];exact a7
   rw[<-V6 c,<-y1 (by rw[e];exact c)];exact a7
  clear d y1 a7 a5 b4 H t ac L u1 u2 u3 bt HG;go_wp2_with fail;go_roundw
  case rel=>exact⟨k+1,ow,vo,HN.o.1,HN.o.2.1,HN.o.2.2.1,HN.o.2.2.2⟩
  case measure=>simp[intOf];omega
 have dv:k=x0.os.n:=ow;subst dv;obtain⟨d,ya,yn,yc,HI,ae⟩:∃y:St,x0.os.a=y.os.a/\x0.os.n=y.os.n/\x0.os.c=y.os.c/\Hid (Il p s y w1.heap.size g r y wr)/\Hid (af y (du s s.os.n)):=⟨du x0 x0.os.n,rfl,rfl,rfl,⟨H.o,H.o,t.o,ac.o,L.o⟩,by have h:=Ni HS0.o x0.os.n;rw[HS0.o.os.1] at h ⊢;exact h⟩;have u1:wr.cell? ⟨g,1,none⟩=some (.slice x0.os.a x0.os.n x0.os.c):=t.o.cell (j:=1) dc;have u2:=t.o.lt;go_wp2_with fail;rw[ya,yn,yc];rw[yn,yc] at ol;rw[yc] at oc;rw[yn] at dy;clear u1 u2 ya yn yc H t ac L HS0 hk hlt
 go_loopw [37] (λY f=>∃(i:Nat) (cur:St),i<=d.os.n/\Y = .int .i64 i/\Hid (Il p s d w1.heap.size g r cur f)/\Hid (Ar p s i cur)) (λY _=>d.os.n-(intOf Y).toNat)
 case atStart=>exact⟨0,d,Qxz _,rfl,HI,ae.o⟩
 clear HI;obtain⟨i,cur,hi,rfl,HI,HA⟩:=hrel;by_cases hlt:i<d.os.n;rotate_left
 .have ds:i=d.os.n:=ow;have dl:Hid (nz p s cur):=by have h:=HA.o;rw[ds,ae.o.os.1] at h;exact h
  obtain⟨m1,p0,p1,p2,p3,p4,p5,p6⟩:=Boxed.of HI.o.box;obtain⟨-,-,-,q,E⟩:=HC.o wr HI.o.bel;have HZ:Hid (Bw w wr/\Blk wr (w.heap.size+2) 36 7 (λ_ => .slice .none 0 0)):=⟨q,E⟩;obtain⟨zl,cg,ce,ch,zc1,ci,zc2,cj,zc3,ck,zc4,cl,zc5,cm,cf⟩:=z7 E;have ea:=(HC.o _ (Below.refl _ _)).2.2.2.1.size;clear q E;go_wp2_with fail;have KZ:=s7b HZ.o.2 cur;have hbz:=s7w (b:=w.heap.size+2) HZ.o.1 ow cur;have a8:=s7o HI.o.own HZ.o.2 cur;unfold set7 at KZ hbz a8;obtain⟨ax,ay,az,a0,a1,a2,a3⟩:=dp KZ;refine Xzq (v := .tuple #[cur.val,.int .i64 0]) (by simp[results,results92,go_sem,St.val,ax,ay,az,a0,a1,a2,a3]) rfl ?_;exact⟨cur,N0,a8.at,⟨λ_=>dl.o,λh=>absurd H0.o h⟩,λ_=>a8.mono ow,hbz⟩
 have q0:(0:Int)<=(i:Int):=ow;have q1:(i:Int)<(d.os.n:Int):=ow;obtain⟨bo,oo,ca,dr,z0,z1,ai⟩:=HI.o.own0.at.os.ods i hlt;have eo:=ae.o.os.2 i hlt;have Q:i<s.os.n:=by have:=ae.o.os.1;show i<s.os.n;exact this▸hlt
 have ap:Hid ((d.os.z i).ls.n=(s.os.z i).ls.n):=eo.2.1.trans (rj s i).symm;have ad:=hid eo.1;have dh:Hid (∀j,j<(d.os.z i).ls.n->((d.os.z i).ls.z j).n=(((du s s.os.n).os.z i).ls.z j).n):=λj hj=>by rw[eo.2.2 j hj]
 have ll:=ai.le;have lc:=ai.cap;unfold maxLen at lc;have ek:(d.os.z i).ls.n<=3:=by rw[ap.o];exact(HR.o.fm.lns i Q).2
 rw[ca];clear ca eo;obtain⟨W,hW,B⟩:∃W,wr.alloc (.cells #[.int .i64 (d.os.z i).k,.slice (d.os.z i).ls.a (d.os.z i).ls.n (d.os.z i).ls.c] 124)=W/\Bw wr W:=⟨_,rfl,(Below.refl _ _).alloc (Nat.le_refl _) _⟩;have S:=hid hW;have aq:Hid (Il p s d w1.heap.size g r cur W):=HI.o.below B;have G:Hid ((d.os.z i).ls.At W):=ai.below B;clear hW ai;by_cases hk:(d.os.z i).k=1;rotate_left
 .have HN:Hid (Ar p s (i+1) cur):=HA.o.skip HR.o Q (by rw[<-ad.o];exact hk);have ej:((d.os.z i).k !=1)=true:=Ha;clear hk ad
  generalize (d.os.z i).k=KK at *
  go_wp2_with fail;rw[S.o];go_roundw
  case rel=>exact⟨i+1,cur,ow,vo,aq,HN⟩
  case measure=>simp[intOf];omega
 have bw:Hid (((du s s.os.n).os.z i).k=1):=by rw[<-ad.o];exact hk
 rw[hk] at z0 S;clear hk ad;go_wp2_with fail;rw[S.o];clear z0 z1 dr S q0 q1
 go_loopw [48] (λjv f=>∃(j:Nat) (cr:St),j<=(d.os.z i).ls.n/\jv = .int .i64 j/\Hid (Il p s d w1.heap.size g r cr f)/\Hid ((d.os.z i).ls.At f)/\Hid (ze p s i j cr)) (λjv _=>(d.os.z i).ls.n-(intOf jv).toNat)
 case atStart=>exact⟨0,cur,Qxz _,rfl,aq,G,HA.o.row⟩
 clear aq G HI HA;obtain⟨j,cr,hj,rfl,HI,G,HB⟩:=hrel;by_cases a9:j<(d.os.z i).ls.n;rotate_left
 .have dt:j=(d.os.z i).ls.n:=ow;subst dt;have HN:Hid (Ar p s (i+1) cr):=by have h:=HB.o;rw[ap.o] at h;exact h.next
  exact ana
 have q2:(0:Int)<=(j:Int):=ow;have q3:(j:Int)<((d.os.z i).ls.n:Int):=ow;obtain⟨bl,ob,b9,dq,y1,y2,y3,y4⟩:=G.o.hds j a9;rw[b9];have b8:j<(s.os.z i).ls.n:=by rw[<-ap.o];exact a9
 have HQ:Hid (xo s i j=((d.os.z i).ls.z j).n):=by show xo s i j=_;rw[dh.o j a9];exact if_pos bw.o
 have HSI:Hid (lf p (-1) cr i j ((d.os.z i).ls.z j).n):=by show lf _ _ _ _ _ _;rw[<-HQ.o];exact HB.o.stepIn HR.o Q b8
 have HK2:Hid ((cr.os.z i).k=1):=((HB.o.pos HR.o Q (Nat.le_of_lt b8)).al.kind i Q).1.trans bw.o;have bv:Hid (ii p cr i j ((d.os.z i).ls.z j).n (-1)=0):=asm;have b1:Hid (∀x,ng p (-1) cr i j ((d.os.z i).ls.z j).n x->ze p s i (j+1) x):=λx T=>HB.o.step (by rw[HQ.o];exact T);clear b9 HSI HK2 HB
 generalize (d.os.z i).ls.z j=Z at *
 obtain⟨W2,b5,V⟩:∃W,wr.alloc (.cells #[.int .i64 Z.o,.int .i64 Z.l,.int .i64 Z.b,.int .i64 Z.n] 115)=W/\Bw wr W:=⟨_,rfl,(Below.refl _ _).alloc (Nat.le_refl _) _⟩;have au:=hid b5;have F:Hid (Il p s d w1.heap.size g r cr W2):=HI.o.below V;have ar:Hid ((d.os.z i).ls.At W2):=G.o.below V;obtain⟨⟨⟨l1,d0,d1⟩,l2,c0,c1,c2,c3,c4,c5,c6⟩,u,A,q,E⟩:=HC.o W2 F.o.bel;obtain⟨m1,p0,p1,p2,p3,p4,p5,p6⟩:=Boxed.of F.o.box;have b0:=hid u;clear b5 V u A q E l2 c0 c1 c2 c3 c4 c5 c6 HI G;rw[<-au.o] at l1 d0 d1 m1 p0 p1 p2 p3 p4 p5 p6;go_wp2_with fail;rw[au.o];clear au l1 d0 d1 m1 p0 p1 p2 p3 p4 p5 p6 dq y1 y2 y3 y4;refine(Pz p cr i j Z.n (-1) W2 b0.o F.o.own.at).mono ?_;rintro e w8 ⟨x,rfl,d3,cd,ba,a6⟩;have HT:Hid (ze p s i (j+1) x):=b1.o x (cd.1 bv.o);have dj:Hid (ah w1.heap.size w8 x):=(ba bv.o).mono F.o.le;have m:Hid (Il p s d w1.heap.size g r cr w8):=F.o.below a6;have d7:Hid ((d.os.z i).ls.At w8):=ar.o.below a6;have b7:=m.o.box;obtain⟨zl,cg,ce,ch,zc1,ci,zc2,cj,zc3,ck,zc4,cl,zc5,cm,cf⟩:=z7 b7;clear b7 d3 cd ba a6 b1 F ar b0
 generalize D8 p cr i j Z.n (-1)=LL at *
 generalize ii p cr i j Z.n (-1)=EE at *
 simp only[St.val];go_wp2_with fail;have HN:Hid (Il p s d w1.heap.size g r x (set7 w8 g (.slice x.on.a x.on.n x.on.c) (.slice x.os.a x.os.n x.os.c) (.slice x.hs.a x.hs.n x.hs.c) (.slice x.ms.a x.ms.n x.ms.c) (.slice x.si.a x.si.n x.si.c) (.slice x.so.a x.so.n x.so.c) (.slice x.sf.a x.sf.n x.sf.c))/\(d.os.z i).ls.At (set7 w8 g (.slice x.on.a x.on.n x.on.c) (.slice x.os.a x.os.n x.os.c) (.slice x.hs.a x.hs.n x.hs.c) (.slice x.ms.a x.ms.n x.ms.c) (.slice x.si.a x.si.n x.si.c) (.slice x.so.a x.so.n x.so.c) (.slice x.sf.a x.sf.n x.sf.c))):=by
  have K:=s7b m.o.box x;have hb:=s7w (b:=g) m.o.bel (Qzx A1 df) x;refine⟨⟨s7o m.o.own0 m.o.box x,s7o dj.o m.o.box x,K.congr (λj hj=>by match j,hj with|0,_=>rfl|1,_=>rfl|2,_=>rfl|3,_=>rfl|4,_=>rfl|5,_=>rfl|6,_=>rfl),hb,?_⟩,?_⟩
  .have:=m.o.le
   simpa[set7] using this
  exact((s7o m.o.own0 m.o.box x).at.os.ods i hlt).choose_spec.choose_spec.2.2.2.2
 unfold set7 at HN;go_roundw
 case rel=>exact⟨j+1,x,ow,vo,HN.o.1,HN.o.2,HT⟩
 case measure=>simp[intOf];omega
def Ji(n:Nat)(listed:Array Bool):List Nat:=(List.range n).filter (λi => !listed.getD i true)
def phB(ops:Array Oper):List (Bool × List Nat × Option Nat)->Array Bool->Bool
 | [],listed=>Region.ready .any ops listed==[]
 | (t,ks,c) :: r,listed=>C9 ops ks listed&&ks.all (λk=>decide (k<ops.size))&&ks.all (λk => !(Ji ops.size (lj listed ks)).contains k)&&(!t||ks.all (λk=>(Ji ops.size (lj listed ks)).all (λj=>Dy ops ops.size j k))) &&
   (match c with|some c=>(Region.ready .any ops (lj listed ks)==[c])&&phB ops r ((lj listed ks).setIfInBounds c true)|none=>phB ops r (lj listed ks))
def phN:List (Bool × List Nat × Option Nat)->Nat
 | []=>0
 | (_,ks,some _) :: r=>ks.length+(phN r+1)
 | (_,ks,none) :: r=>ks.length+phN r
def ahi(P:Program)(l:List Oper)(Q:Exit->Act->World->Prop):List (Bool × List Nat × Option Nat)->Act->World->Prop
 | [],a,w=>Q .normal a w
 | (t,ks,some c) :: r,a,w=>∃S:World->Prop,S w/\(t=false->∀w',S w')/\wpQuiet P l.toArray S (λa1=>wpOp P l.toArray Q c (λa2 w2=>ahi P l Q r a2 w2) a1 w) (ss l ks) a
 | (t,ks,none) :: r,a,w=>∃S:World->Prop,S w/\(t=false->∀w',S w')/\wpQuiet P l.toArray S (λa1=>ahi P l Q r a1 w) (ss l ks) a
theorem Mh{P:Program}{c:Array Oper}{Q:Exit->Act->World->Prop}{S:World->Prop}{T:Nat->Bool}:∀(fuel:Nat) (b:Array Bool) (a:Act) (w:World),(∀i,b.getD i true=false->i<c.size->T i=true\/∀w,S w)->wpAny P .any c Q fuel b a w->tt P c Q S T fuel b a w
 | 0,_,_,_,_,h=>h
 | fuel+1,b,a,w,hT,h=>⟨h.1,λi hi=>wpOp_mono (λk w' l=>⟨λd=>by
   obtain⟨m,o,n,_⟩:=mem_ready.1 hi;rcases hT i m (Qkq n).1 with e|e
   .rw[e] at d;cases d
   .exact e w',Mh fuel _ k w' (λj f g=>hT j (by
   by_cases e:i=j
   .subst e;exact(mem_ready.1 hi).1
   rw[getD_set_ne true e] at f;exact f) g) l⟩) (h.2 i hi)⟩
theorem Qi{P:Program}{l:List Oper}{Q:Exit->Act->World->Prop}(hs:Region.noSelect l.toArray=true)(u:∀c a a' w,Q (.panic c) a w->Q (.panic c) a' w):∀(s:List (Bool × List Nat × Option Nat)) (b:Array Bool) (a:Act) (w:World),
   phB l.toArray s b=true->(s.all (λx=>(ss l x.2.1).all Es))=true->qu l.toArray b->ahi P l Q s a w->wpAny P .any l.toArray Q (phN s) b a w
 | [],b,a,w,hB,_,_,h=>⟨by simpa[phB] using hB,h⟩
 | (t,ks,c) :: r,b,a,w,hB,hv,hcl,h=>by
  simp only[phB,Xxx] at hB;obtain⟨⟨⟨⟨b1,b2⟩,b3⟩,b4⟩,b5⟩:=hB;simp only[List.all_cons,Xxx] at hv;have key:=λ(S:World->Prop) (K:Act->Prop) (f:Nat) (p:S w) (g:t=false->∀w',S w') (q:wpQuiet P l.toArray S K (ss l ks) a) (E:∀a1,K a1->qu l.toArray (lj b ks)->wpAny P .any l.toArray Q f (lj b ks) a1 w)=>Fx _ _ _ _ (yh (P:=P) (Q:=Q) (S:=S) (T:=λi=>t&&(Ji l.toArray.size (lj b ks)).contains i) (N:=l.toArray.size) (fuel:=f) (w:=w) hs p u ks (ss l ks) b a b1
   (λk A=>⟨by
    have:=List.all_eq_true.1 b3 k A;rw[Bool.not_eq_true'] at this;rw[this,Bool.and_false],λj v=>by
    rw[Xxx] at v;have n:=b4;rw[v.1] at n;simp only[Bool.not_true,Bool.false_or] at n;exact List.all_eq_true.1 (List.all_eq_true.1 n k A) j (by simpa using v.2)⟩)
   hcl (Gx (by simpa using b2)) hv.1 q (λa1 o d=>by
    refine Mh _ _ _ _ (λi hi z => ?_) (E a1 o d);cases t with
    | false=>exact Or.inr (g rfl)
    | true =>
     left
     have:i∈Ji l.toArray.size (lj b ks):=by
      unfold Ji;rw[List.mem_filter,List.mem_range];exact⟨z,by rw[hi];rfl⟩
     simpa using this))
  cases c with
  | none =>
   obtain⟨S,p,g,q⟩:=h;exact key S _ (phN r) p g q λa1 o d=>Qi hs u r _ a1 w b5 hv.2 d o
  | some c =>
   obtain⟨S,p,g,q⟩:=h;simp only[Xxx] at b5;have m:Region.ready .any l.toArray (lj b ks)=[c]:=by simpa using b5.1
   refine key S _ (phN r+1) p g q λa1 o d => ?_;refine⟨λe=>(by rw[m] at e;cases e),λi hi => ?_⟩;have y:i=c:=by rw[m] at hi;simpa using hi
   subst y;exact wpOp_mono (λB F D=>Qi hs u r _ B F b5.2 hv.2 (d.set hi) D) o
theorem jq{P:Program}{l:List Oper}{a:Act}(b:List (Bool × List Nat × Option Nat))(h:ahi P l (NoPanic Q) b a w.drew)(f:P.follows .mixedOrders=true:=by kernel_rfl)(hs:Region.noSelect l.toArray=true:=by kernel_rfl)(d:phB l.toArray b (Array.replicate l.length false)=true:=by kernel_rfl)(g:(b.all (λx=>(ss l x.2.1).all Es))=true:=by kernel_rfl)(e:phN b=l.length:=by kernel_rfl):(Code.region n l.toArray true).wp P Q a w:=by
 refine wp_region_noPanic (wp_region_any f ?_);have:=Qi (Q:=NoPanic Q) hs (λc a i w h=>(h:False).elim) b _ a w.drew d g (qu.none _ _) h;rw[e] at this
 simpa using this
theorem ma{P:Program}{l:List Oper}{K:Act->World->Prop}(k:Nat){o:Oper}{a:Act}(b:l[k]?=some o)
  (h:wpList P l.toArray (Exit.then K Q) [o] a w):wpOp P l.toArray Q k K a w:=ai k b h
theorem Hs.At.congr{s:Hs}{z':Nat->Hd}(h:s.At w)(b:s.n=n)(d:∀j,j<s.n->s.z j=z' j):Hs.At w ⟨s.a,n,s.c,z'⟩:=by
 subst b;refine⟨h.le,h.cap,λi hi => ?_,h.nilc⟩;have:=h.hds i hi;rw[d i hi] at this;exact this
theorem ap6(s:Hs)(h:Hd)(w:World)(hs:s.At w)(hr:aw s.n (df s.z)=false)(hf:il h=true):
  Calls prog 108 #[s.val,.int .i64 h.o,.int .i64 h.l,.int .i64 h.b,.int .i64 (keptV s.n s.z h.o h.l h.b+h.n)] w λe w'=>∃k:Hs,e = .returned k.val/\ct w.heap.size 107 w' k/\k.n=sw s.n s.z h/\k.z=Au s.n s.z h/\Bw w w':=by
 obtain⟨D,v,x⟩:=Uk hr hf;have i:=cw hf;by_cases f:keptV s.n s.z h.o h.l h.b=0
 .have no:=ad5 hr f;have m:∀j,jr s.n s.z h<=j->j<s.n->bj h<bj (s.z j):=λj g hjn=>by
   have a:=x j g hjn;have b:¬bj (s.z j)=bj h:=λe=>aow;omega
  rw[f,Int.zero_add];have p:sw s.n s.z h=s.n+1:=if_pos f;have q:Au s.n s.z h=np s.z (jr s.n s.z h) h:=if_pos f;rw[p,q];exact ap7 s h (jr s.n s.z h) w hs hr (Rz hf) D (λu=>m _ nlr u) ow v (λj g hjn=>m j ow hjn)
 obtain⟨r,y,E,t,A⟩:=uu hr f;have d:bj (s.z (jy s.n s.z h.o h.l h.b))=bj h:=H9 (n:=h.n) y;have B:jy s.n s.z h.o h.l h.b=jr s.n s.z h:=by
  rcases Nat.lt_trichotomy (jy s.n s.z h.o h.l h.b) (jr s.n s.z h) with c|c|c
  .have:=v _ c;omega
  .exact c
  have:=t _ c;have:=x _ nlr ow;omega
 rw[B] at r y E t A d;have F:=cw (cd hr _ r);have p:sw s.n s.z h=s.n:=if_neg f;have q:Au s.n s.z h=ud s.z (jr s.n s.z h) ⟨h.o,h.l,h.b,keptV s.n s.z h.o h.l h.b+h.n⟩:=if_neg f;rw[p,q];exact Wc s ⟨h.o,h.l,h.b,keptV s.n s.z h.o h.l h.b+h.n⟩ (jr s.n s.z h) w hs hr ⟨i.1,i.2.1,i.2.2.1⟩ r d (by show ¬keptV s.n s.z h.o h.l h.b+h.n=0;omega) (λj g=>by have:=t j g;rw[d] at this;exact this) (λj g hjn=>by have:=A j g hjn;rw[d] at this;exact this)
theorem Y7(s:Hs)(o l b:Int)(w:World)(hs:s.At w):
  Calls prog 107 #[s.val,.int .i64 o,.int .i64 l,.int .i64 b] w λe w'=>e = .returned (.int .i64 (keptV s.n s.z o l b))/\Bw w w' :=
 (Rh s o l b w hs).mono λe w' h=>⟨h.1,by rw[h.2];exact Below.refl _ _⟩
def rp(p:Pl)(but:Int)(k:Nat):List Int:=((gh p).take k).filter (λb => !(b==but))
theorem ap5{but:Int}{k:Nat}(hk:k<(gh p).length):rp p but (k+1)=rp p but k++if (gh p).getD k 0=but then [] else [(gh p).getD k 0]:=by
 unfold rp;rw[List.take_add_one,List.getElem?_eq_getElem hk,List.filter_append];have e:(gh p).getD k 0=(gh p)[k]:=Xg;rw[e]
 congr 1
 by_cases h:(gh p)[k]=but<;>simp[h]
theorem arz(p:Pl)(but:Int):rp p but (gh p).length=fh p but:=by unfold rp fh;rw[List.take_length]
theorem ahf(p:Pl)(but:Int)(k:Nat):(rp p but k).Pairwise (λx y=>¬x=y):=(((acs p).imp λh=>h.1).sublist (List.take_sublist _ _)).filter _
theorem acq{but x:Int}{k:Nat}(h:x∈rp p but k):x∈(gh p).take k:=(List.mem_filter.1 h).1
theorem Oz{but x:Int}{k:Nat}(h:x∈rp p but k):0<=x/\x<p.nb:=Jy (List.mem_of_mem_take (acq h))
theorem ar0{but:Int}{k:Nat}(hk:k<(gh p).length):(gh p).getD k 0 ∉ rp p but k:=λh=>by
 have b:=acq h;have e:(gh p).getD k 0=(gh p)[k]:=Xg;rw[e] at b;obtain⟨j,c,a⟩:=List.mem_iff_getElem.1 b;rw[List.length_take] at c;rw[List.getElem_take] at a;have d:=List.pairwise_iff_getElem.1 (acs p) j k ow hk ow;exact d.1 a
def Wx(s:St)(o l:Nat)(n:Int)(t:Tk)(F:List Int)(A BX BL g:Nat)(wk:World):Prop :=
 ∃x:St,ey s o l n t x/\ah A wk x/\Blk wk BX 36 7 (λj=>x.cells.getD j default)/\Blk wk g 3 F.length (λj => .int .i64 (F.getD j 0))/\(x.os.z o).ls.a=some ⟨BL,0,none⟩/\Blk wk (BX+1) 36 7 (λ_ => .slice .none 0 0)
def uw(w wk:World):Prop:=∀(q:Nat) (t:TypeId) (m:Nat) (f:Nat->Value),t≠115->Blk w q t m f->Blk wk q t m f
theorem uw.below{b:World}(h:uw w b)(c:Bw b a):uw w a:=λq t m f e d=>(h q t m f e d).below c
theorem uw.refl(w:World):uw w w:=λ_ _ _ _ _ h=>h
theorem uw.setNew{c:World}(h:uw w c){B:Nat}(e:w.heap.size<=B)(j:Nat)(u:Value):uw w (c.setCell ⟨B,j,none⟩ u):=λq t m f d b=>(h q t m f d b).other (a:=⟨B,j,none⟩) (by have:=b.lt;show q≠B;omega) u
theorem uw.setLine{c:World}(h:uw w c){B:Nat}{z:Nat->Value}(e:Blk c B 115 n z)(j:Nat)(u:Value):uw w (c.setCell ⟨B,j,none⟩ u):=λq t m f b d=>(h q t m f b d).other (a:=⟨B,j,none⟩) (Blk.ne2 (h q t m f b d) e b) u
def Oc(A:Nat)(x:Hs)(h:Hd)(v:Value)(g:List Nat)(wk:World):Prop:=∃y:Hs,g=[]/\v = .slice y.a y.n y.c/\ct A 107 wk y/\y.n=sw x.n x.z h/\y.z=Au x.n x.z h
theorem Oc.below{x:Hs}{g:List Nat}(k:Oc A x h v g w)(e:Bw w w'):Oc A x h v g w':=by
 obtain⟨y,a,b,c,d⟩:=k;exact⟨y,a,b,c.below e,d⟩
theorem Qf(p:Pl)(s:St)(o l A:Nat)(n but:Int)(w:World)(hp:p.At w)(hO:ah A w s)(hA:A<=w.heap.size)(hI:i9 p s o l n):
  Calls prog 106 #[p.val,s.val,.int .i64 (o:Int),.int .i64 (l:Int),.int .i64 n,.int .i64 but] w λe w'=>∃x:St,e = .returned (.tuple #[x.val,.int .i64 (Tk.go (avT s o l) n (fh p but)).left])/\ey s o l n (Tk.go (avT s o l) n (fh p but)) x/\ah A w' x/\Below A w w'/\uw w w':=by
 obtain⟨W0,hW,a1,X0,Z0⟩:∃W,(((w.alloc (.cells #[.slice p.ab p.nb p.cb,.slice p.sa p.ns p.cs] 25)).alloc (.cells s.cells 36)).alloc (.cells #[.slice .none 0 0,.slice .none 0 0,.slice .none 0 0,.slice .none 0 0,.slice .none 0 0,.slice .none 0 0,.slice .none 0 0] 36))=W/\Bw w W/\Blk W (w.heap.size+1) 36 7 (λj=>s.cells.getD j default)/\Blk W (w.heap.size+1+1) 36 7 (λ_ => .slice .none 0 0):=
  ⟨_,rfl,(dx _ _ _).alloc oq _,(Blk.mk' vq rfl).alloc _,(Blk.mk' (cur:=#[.slice .none 0 0,.slice .none 0 0,.slice .none 0 0,.slice .none 0 0,.slice .none 0 0,.slice .none 0 0,.slice .none 0 0]) vq rfl).congr (λj hj=>by match j,hj with|0,_=>rfl|1,_=>rfl|2,_=>rfl|3,_=>rfl|4,_=>rfl|5,_=>rfl|6,_=>rfl)⟩
 unfold St.cells at hW;have HW:=hid hW;have S:Hid (i9 p s o l n):=hI;have HP:Hid (p.At W0):=hp.below a1;have leb:=hp.leb;have capb:=hp.capb;have nb1:=hI.fm.sh.pl.nb1;have nb6:=hI.fm.sh.pl.nb6;have ho:=hI.on;have hl:=hI.ln;unfold maxLen at capb;have c3:Hid (ah A W0 s/\Blk W0 (w.heap.size+1) 36 7 (λj=>s.cells.getD j default)/\Blk W0 (w.heap.size+1+1) 36 7 (λ_ => .slice .none 0 0)/\Below A w W0):=⟨ah.below hO a1,X0,Z0,a1.mono hA⟩;clear hW X0 Z0 hp hO hI;unfold Pl.val St.val;go_enter func106,ntmps106;go_wp2_with fail;rw[HW.o];refine(Xw p W0 HP.o nb6).mono ?_;rintro e w1 ⟨v,rfl,hown,al⟩;have HWL:Hid ((gh p).length=p.nb):=aee p;have hv:v ≠ .slice none 0 0:=anr;obtain⟨g,c,rfl,g3,e9,hg,hk⟩:=Blk.ofOwns hown hv;have dq:Blk w1 g 3 (gh p).length (λj => .int .i64 ((gh p).getD j 0)):=am2;obtain⟨dd,X0,Z0,c7⟩:=c3.o;have a0:=ah.below dd al;have X1:=X0.below al;have Z1:=Z0.below al;have c8:=c7.trans (al.mono (Qzx hA a1.size));obtain⟨gO,D,f1,f2,f3,f4,f5,f6,f7,f8,f9,bx,be,f12,bz,bf⟩:=a0.lineCell ho hl;have bp:Hid (Wx s o l n (Tk.go (avT s o l) n (rp p but 0)) (gh p) A (w.heap.size+1) D g w1):=⟨s,ey.start S.o.fm.hold ⟨⟨rfl,λ_ _=>⟨rfl,λ_ _=>rfl⟩⟩,⟨rfl,λ_ _=>⟨rfl,rfl,λ_ _=>rfl⟩⟩,⟨rfl,λ_ _=>rfl⟩,⟨rfl,λ_ _=>rfl⟩,⟨rfl,λ_ _=>rfl⟩,⟨rfl,λ_ _=>rfl⟩,⟨rfl,λ_ _=>rfl⟩⟩,a0,X1,dq,f5,Z1⟩;have Y:Hid (uw w w1):=((uw.refl w).below a1).below al;have cx:Hid (Below A w w1/\A<=D/\w.heap.size+1<W0.heap.size/\W0.heap.size<=g):=⟨c8,f6,X0.lt,hg⟩;have s1:w1.cell? ⟨w.heap.size+1,1,none⟩=some (.slice s.os.a s.os.n s.os.c):=X1.k 1;have s2:=X1.lt;have v1:=a0.os.le;have v2:=a0.os.cap;rw[f1] at s1;unfold maxLen at v2 f9 e9;have qo:(0:Int)<=(o:Int):=ow;have ql:(0:Int)<=(l:Int):=ow;have dn:=S.o.good;obtain⟨gd,ce⟩:=Qzz dn.1;have cz:Hid (((s.os.z o).ls.z l).o=(gd:Int)):=ce;have cc:gd<p.ns:=ow;rw[ce] at be;clear hown hv hk dq dd X0 Z0 c7 a0 X1 Z1 c8 f1 f2 f5 f6 bx f12 bz bf c3 HW HP al dn ce hg;go_wp2_with fail;clear s1 s2 f3 f4 f7 f8 f9 be v1 v2
 go_loopw [4,16] (λnv kv F=>∃k:Nat,k<=(gh p).length/\kv = .int .i64 k/\nv = .int .i64 (Tk.go (avT s o l) n (rp p but k)).left/\Hid (Wx s o l n (Tk.go (avT s o l) n (rp p but k)) (gh p) A (w.heap.size+1) D g F)/\Hid (Below A w F)/\Hid (uw w F)) (λ_ kv _=>(gh p).length-(intOf kv).toNat)
 case atStart=>exact⟨0,Qxz _,rfl,rfl,bp,cx.o.1,Y⟩
 clear bp Y;obtain⟨k,hk,rfl,rfl,HV,aw,Y⟩:=hrel;have ak:Hid (Ce (avT s o l) n (rp p but k) (Tk.go (avT s o l) n (rp p but k))):=S.o.tk (ahf p but k) (λx hx=>Oz hx);have U:Hid (k<(gh p).length->Tk.go (avT s o l) n (rp p but (k+1))=if (gh p).getD k 0=but then Tk.go (avT s o l) n (rp p but k) else(Tk.go (avT s o l) n (rp p but k)).step (avT s o l) ((gh p).getD k 0)):=λh=>by
  rw[ap5 h];by_cases hb:(gh p).getD k 0=but
  .rw[if_pos hb,if_pos hb,List.append_nil]
  rw[if_neg hb,if_neg hb,Tk.go_more]
 have ao:Hid (k=(gh p).length->Tk.go (avT s o l) n (rp p but k)=Tk.go (avT s o l) n (fh p but)):=λh=>by rw[h,arz]
 obtain⟨x,hx⟩:=HV.o;have E:Hid (ey s o l n (Tk.go (avT s o l) n (rp p but k)) x/\ah A wr x/\Blk wr (w.heap.size+1) 36 7 (λj=>x.cells.getD j default)/\Blk wr g 3 (gh p).length (λj => .int .i64 ((gh p).getD j 0))/\(x.os.z o).ls.a=some ⟨D,0,none⟩/\Blk wr (w.heap.size+1+1) 36 7 (λ_ => .slice .none 0 0)):=hx;obtain⟨T,di⟩:∃T,Tk.go (avT s o l) n (rp p but k)=T:=⟨_,rfl⟩;rw[di] at ak U ao E ⊢;clear hx HV di;have ft:=ak.o.left0;have fu:=ak.o.leftn;have g4:=S.o.bk;by_cases hlt:k<(gh p).length;rotate_left
 .have fb:k=(gh p).length:=ow;have HT:Hid (T=Tk.go (avT s o l) n (fh p but)):=ao.o fb;clear ao U;have KX:=E.o.2.2.1;obtain⟨m1,p0,p1,p2,p3,p4,p5,p6⟩:=Boxed.of KX;have hz:=E.o.2.2.2.2.2;obtain⟨zl,g8,g6,g9,zc1,ha,zc2,hc,zc3,he,zc4,hf,zc5,hh,g7⟩:=z7 hz;clear KX hz;go_wp2_with fail;have KZ:=s7b E.o.2.2.2.2.2 x;have dm:=s7w (b:=w.heap.size+1+1) aw.o ow x;have dh:=s7o E.o.2.1 E.o.2.2.2.2.2 x;unfold set7 at KZ dm dh;obtain⟨eu,ev,ew,ex,ez,e1,e2⟩:=dp KZ;refine Xzq (v := .tuple #[x.val,.int .i64 T.left]) (by simp[results,results106,go_sem,St.val,eu,ev,ew,ex,ez,e1,e2]) rfl ?_;rw[<-HT.o];refine⟨x,rfl,E.o.1,dh,dm,?_⟩;exact((((((Y.o.setNew ow 0 _).setNew ow 1 _).setNew ow 2 _).setNew ow 3 _).setNew ow 4 _).setNew ow 5 _).setNew ow 6 _
 have bc:Hid _:=U.o hlt;obtain⟨a5,a6⟩:=Jy (List.mem_iff_getElem.2 ⟨k,hlt,rfl⟩:(gh p)[k]∈gh p);have dl:(gh p).getD k 0=(gh p)[k]:=as4;have z0:=E.o.2.2.2.1.cell (j:=k) hlt;have z1:=E.o.2.2.2.1.lt;rw[<-dl] at a5 a6;obtain⟨r,am⟩:=Qzz a5;have ba:Hid ((gh p).getD k 0=(r:Int)):=am;rw[am] at z0 a6;have ar:r<p.nb:=ow;have a8:=ar0 (but:=but) hlt;rw[am] at a8;have ej:Hid (cu p x):=S.o.formed (λx hx=>Oz hx) ak.o E.o.1;have ei:Hid (aq x r gd=avT s o l r):=by
  have h:=S.o.availAt (λx hx=>Oz hx) ak.o E.o.1 ar a8;rw[cz.o] at h;exact h
 have gx : -20000<=avT s o l r/\avT s o l r<=200:=by
  have f:=S.o.fm;have h1:=f.sh.num r (by rw[f.sh.n];exact ar) gd cc;have h2:=pd (s:=s) (b:=r) (g:=gd) f.holdN;have h3:=lm (s:=s) (b:=r) (g:=gd) f.moveN;have h4:=f.hs72;have h5:=f.ms8;unfold avT;rw[cz.o];show -20000<=aq s r gd/\aq s r gd<=200;unfold aq;omega
 have bn:Hid (avT s o l ((gh p).getD k 0)=avT s o l r):=by show avT s o l ((gh p).getD k 0)=_;rw[am]
 generalize hAVd:avT s o l (r:Int)=AV at *
 clear hAVd a8 a5 a6 dl;have q0:(0:Int)<=(k:Int):=ow;obtain⟨N,hN⟩:∃N,T.left=N:=⟨_,rfl⟩;have HN:Hid (T.left=N):=hN;rw[hN] at ft fu ⊢;clear hN;have br:Hid (∀m,min N AV=m->min T.left (avT s o l ((gh p).getD k 0))=m):=λm h=>by rw[bn.o,HN.o];exact h
 rw[am] at bc;clear am U ao;have g0:N<=200:=by
  have:=S.o.sum;have:=(wh (z:=s.hs.z) o l s.hs.n λj hj=>(cw (cd S.o.fm.hold j hj)).2.2.2).1;omega
 by_cases Q:(r:Int)=but
 .have e8:((r:Int)==but)=true:=by simpa using Q
  have L:Hid (Tk.go (avT s o l) n (rp p but (k+1))=T):=by
   show Tk.go (avT s o l) n (rp p but (k+1))=T;rw[bc.o,if_pos Q]
  clear Q;go_wp2_with fail;go_roundw
  case rel=>exact⟨k+1,ow,vo,by rw[L.o,HN.o],by rw[L.o];exact⟨x,E.o⟩,aw,Y⟩
  case measure=>simp[intOf];omega
 have e8:((r:Int)==but)=false:=by simpa using Q
 have bd:Hid (Tk.go (avT s o l) n (rp p but (k+1))=T.step (avT s o l) (r:Int)):=by
  show Tk.go (avT s o l) n (rp p but (k+1))=_;rw[bc.o,if_neg Q]
 clear Q bc;have KX:=E.o.2.2.1;obtain⟨m1,p0,p1,p2,p3,p4,p5,p6⟩:=Boxed.of KX;have cv:Hid (Calls prog 109 #[x.val,.int .i64 (r:Int),.int .i64 (gd:Int)] wr λe w'=>e = .returned (.int .i64 AV)/\Bw wr w'):=by
  have h:=O5 p x r gd wr E.o.2.1.at ej.o ar cc;rw[ei.o] at h;exact h
 clear KX;go_wp2_with fail;refine cv.o.mono ?_;rintro e w9 ⟨rfl,aa⟩;clear m1 p0 p1 p2 p3 p4 p5 p6 cv z0 z1;have X:Hid (Below A w w9):=aw.o.trans (aa.mono (Qzx hA aw.o.size));have HX9:Hid (ey s o l n T x/\ah A w9 x/\Blk w9 (w.heap.size+1) 36 7 (λj=>x.cells.getD j default)/\Blk w9 g 3 (gh p).length (λj => .int .i64 ((gh p).getD j 0))/\(x.os.z o).ls.a=some ⟨D,0,none⟩/\Blk w9 (w.heap.size+1+1) 36 7 (λ_ => .slice .none 0 0)):=⟨E.o.1,ah.below E.o.2.1 aa,E.o.2.2.1.below aa,E.o.2.2.2.1.below aa,E.o.2.2.2.2.1,E.o.2.2.2.2.2.below aa⟩;have a2:Hid (uw w w9):=Y.o.below aa;clear E aw aa Y;by_cases dr:min N AV<=0
 .have fc:min N AV=0:=by
   have:=S.o.av r ar;have e:avT s o l (r:Int)=aq s r ((s.os.z o).ls.z l).o.toNat:=rfl;have:=bn.o;rw[ba.o,e] at this;omega
  have g1:¬0<min N AV:=ow;have g2:decide (0<min N AV)=false:=decide_eq_false g1;have L:Hid (Wx s o l n (Tk.go (avT s o l) n (rp p but (k+1))) (gh p) A (w.heap.size+1) D g w9/\(Tk.go (avT s o l) n (rp p but (k+1))).left=N):=by
   have e0:min T.left (avT s o l (r:Int))=0:=by have h:=br.o 0 fc;rw[ba.o] at h;exact h
   refine⟨⟨x,?_,HX9.o.2⟩,?_⟩
   .rw[bd.o];exact HX9.o.1.stepZero e0
   rw[bd.o];show T.left-min T.left _=N;rw[e0,HN.o];omega
  clear dr;go_wp2_with fail;go_roundw
  case rel=>exact⟨k+1,ow,vo,by rw[L.o.2],L.o.1,X,a2⟩
  case measure=>simp[intOf];omega
 obtain⟨t,db⟩:∃t,min N AV=t:=⟨_,rfl⟩;have c1:Hid (min N AV=t):=db;have dt:0<t:=ow;have fk:t<=N:=ow;have g2:decide (0<t)=true:=decide_eq_true dt;have a9:Hid (il (lu o l r t)=true/\keptV x.hs.n x.hs.z o l r+t<=200/\addE x.hs.n x.hs.z (lu o l r t)=0):=S.o.addE (λx hx=>Oz hx) ak.o HX9.o.1 (b:=(r:Int)) ⟨ow,ow⟩ dt (by rw[HN.o];exact fk);have ff:=(Gt (λj hj=>(cw (cd HX9.o.1.right j hj)).2.2.2) (o:Int) (l:Int) (r:Int)).1;have fg:=a9.o.2.1;obtain⟨KV,b8⟩:∃KV,keptV x.hs.n x.hs.z o l r=KV:=⟨_,rfl⟩;have c0:Hid (keptV x.hs.n x.hs.z o l r=KV):=b8;rw[b8] at ff fg;clear b8;have KX:=HX9.o.2.2.1;have y2:=Qqq (KX.k 2);have y3:=KX.lt;clear KX dr;go_wp2_with fail;clear db;refine vw (λw'=>∃p:Regrown,w'=grow (redrawn w9 p.d) p.os) [0,1,2,3,4,5,6,7,8,9,11] [10,12,13] [(true,14),(true,15)] (Qqx (brf.drew)) ?_;simp only[jg]
 repeat(go_big_quiet_step(fail))
 refine Qqz ?_;clear y2;refine⟨λj v g F=>match j with|10=>g=[]/\v = .int .i64 KV|12=>g=[]/\v = .int .i64 (KV+t)|13=>Oc w9.heap.size x.hs (lu o l r t) v g F|_=>True,
  Qjx ⟨λv g w w' hB h=>h,Qjx ⟨λv g w w' hB h=>h,Qjx ⟨λv g w w' hB h=>Oc.below h hB,Qjq _⟩⟩⟩,
  Qjx ⟨λv g w h=>Jo,Qjx ⟨λv g w h=>Jo,Qjx ⟨λv g w h=>Bm,Qjq _⟩⟩⟩,
  Qjx ⟨?zt3,Qjx ⟨?zt4,Qjx ⟨?zt5,Qjq _⟩⟩⟩,?ztdone⟩
 case zt3 =>
  intro V G F K hS hd hA hK;have u:=ae hS;refine ai _ rfl ?_;simp only[bw] at hK ⊢;have ek:Hid (Calls prog 107 #[.slice x.hs.a x.hs.n x.hs.c,.int .i64 (o:Int),.int .i64 (l:Int),.int .i64 (r:Int)] F λe w'=>e = .returned (.int .i64 KV)/\Bw F w'):=by
   have h:=Y7 x.hs o l r F (HX9.o.2.1.hs.at.below u);rw[c0.o] at h;exact h
  go_wp2_with fail;refine ek.o.mono ?_;rintro e w2 ⟨rfl,ay⟩;go_wp2_with fail;exact hK _ [] _ (Qqx (u.trans (ay.mono u.size))) ay (λx hx=>qm) ⟨rfl,rfl⟩
 case zt4 =>
  intro V G F K hS hd hA hK;obtain⟨-,e3⟩:(G 10=[]/\V 10 = .int .i64 KV):=hd 10 (Qjz ko) vq;refine ai _ rfl ?_;simp only[bw,e3] at hK ⊢;exact ax4
 case zt5 =>
  intro V G F K hS hd hA hK;have u:=ae hS;have q:=u.size;obtain⟨-,e4⟩:(G 12=[]/\V 12 = .int .i64 (KV+t)):=hd 12 (Qjz ko) vq;refine ai _ rfl ?_;simp only[bw,e4] at hK ⊢;have eo:Hid (Calls prog 108 #[.slice x.hs.a x.hs.n x.hs.c,.int .i64 (o:Int),.int .i64 (l:Int),.int .i64 (r:Int),.int .i64 (KV+t)] F λe w'=>∃s':Hs,e = .returned s'.val/\ct F.heap.size 107 w' s'/\s'.n=sw x.hs.n x.hs.z (lu o l r t)/\s'.z=Au x.hs.n x.hs.z (lu o l r t)/\Bw F w'):=by
   have h:=ap6 x.hs (lu o l r t) F (HX9.o.2.1.hs.at.below u) HX9.o.1.right a9.o.1;rw[show keptV x.hs.n x.hs.z (lu o l r t).o (lu o l r t).l (lu o l r t).b=KV from c0.o] at h;exact h
  go_wp2_with fail;refine eo.o.mono ?_;rintro e w2 ⟨y,rfl,h1,h2,h3,ay⟩;have HR:Hid (ct w9.heap.size 107 w2 y/\y.n=sw x.hs.n x.hs.z (lu o l r t)/\y.z=Au x.hs.n x.hs.z (lu o l r t)):=⟨h1.mono ow,h2,h3⟩;clear h1 h2 h3;simp only[Hs.val];go_wp2_with fail;exact hK _ [] _ (Qqx (u.trans (ay.mono u.size))) ay (λx hx=>qm) ⟨y,rfl,rfl,HR.o⟩
 case ztdone =>
  intro V G' F hS hD e5;obtain⟨y,-,c6,ch,yn,yz⟩:Oc w9.heap.size x.hs (lu o l r t) (V 13) (G' 13) F:=hD 13 vq;have u:=ae hS;have du:Hn x.hs.n x.hs.z (lu o l r t) y:=⟨by rw[if_pos a9.o.2.2];exact yn,λj _=>by rw[yz]⟩;have q9:=X.o.size;have qa:=u.size;obtain⟨b1,b2,b3,b4⟩:=cx.o;have de:=ah.below HX9.o.2.1 u;have KA:=HX9.o.2.2.1.below u;have FA:=HX9.o.2.2.2.1.below u;have ZA:=HX9.o.2.2.2.2.2.below u;have b7:=X.o.trans (u.mono (Qzx hA X.o.size));have ho1:o<x.os.n:=ald;have b9:=(de.withHolds (ch.mono ow)).box KA 2 (.slice y.a y.n y.c);have KB:=KA.set 2 (.slice y.a y.n y.c);have FB:=FA.other (a:=⟨w.heap.size+1,2,none⟩) (Blk.ne2 FA KA dc) (.slice y.a y.n y.c);have ZB:=ZA.other (a:=⟨w.heap.size+1,2,none⟩) (by show w.heap.size+1+1≠w.heap.size+1;omega) (.slice y.a y.n y.c);have b6:=b7.setCell (p:=⟨w.heap.size+1,2,none⟩) (by show A<=w.heap.size+1;omega) (.slice y.a y.n y.c);have an:l<(x.os.z o).ls.n:=atg;have dj:=HX9.o.1.stepAdd (av:=avT s o l) (order:=o) (line:=l) (b:=(r:Int)) (m:=t) ho hl (by have h:=br.o t c1.o;rw[ba.o] at h;exact h) a9.o.2.2 du;have cg:=(a2.o.below u).setNew (B:=w.heap.size+1) ow 2 (.slice y.a y.n y.c);have z1:=KA.lt;have z2:=KA.frozen 2;have z3:=KA.k 2;obtain⟨M,ca⟩:∃M,F.setCell ⟨w.heap.size+1,2,none⟩ (.slice y.a y.n y.c)=M:=⟨_,rfl⟩;have c2:Hid (F.setCell ⟨w.heap.size+1,2,none⟩ (.slice y.a y.n y.c)=M):=ca;rw[ca] at b9 KB FB ZB b6 cg;have bq:Hid (uw w M):=cg;have H:Hid (ah A M (withHolds x y)/\Blk M (w.heap.size+1) 36 7 (λi=>if i=2 then .slice y.a y.n y.c else x.cells.getD i default)/\Blk M g 3 (gh p).length (λj => .int .i64 ((gh p).getD j 0))/\Blk M (w.heap.size+1+1) 36 7 (λ_ => .slice .none 0 0)/\Below A w M/\ey s o l n (T.step (avT s o l) r) (withHolds (setLine x o l 3 (((x.os.z o).ls.z l).n-t)) y)):=⟨b9,KB,FB,ZB,b6,dj⟩;have dk:Hid (o<x.os.n/\l<(x.os.z o).ls.n/\(x.os.z o).ls.a=some ⟨D,0,none⟩/\A<=D):=⟨ho1,an,HX9.o.2.2.2.2.1,b2⟩;have bo:Hid (((x.os.z o).ls.z l).n=((s.os.z o).ls.z l).n-(n-T.left)):=by
   show((x.os.z o).ls.z l).n=_;rw[(HX9.o.1.os.2 o ho1).2.2 l an,if_pos ⟨rfl,rfl⟩]
   rfl
  clear cg a2 hS hD e5 u de KA FA ZA b7 b9 KB FB ZB b6 dj ch yn yz du ca ho1 an HX9 X;simp only[bw,c6];refine bu 14 rfl ?_;go_wp2_with fail;refine⟨fw.yes,?_⟩;refine bu 15 rfl ?_;go_wp2_with fail;refine⟨fw.yes,?_⟩;refine NoPanic.normal ?_;rw[c2.o];clear z1 z2 z3 c2 c6 b1 b2 b3 b4 q9 qa;obtain⟨ho1,an,cf,gz⟩:=dk.o;obtain⟨gO,eg,f1,f2,f3,f4,f5,f6,f7,f8,f9,bx,be,f12,bz,bf⟩:=H.o.1.lineCell (o:=o) (l:=l) ho1 an;have b0:(x.os.z o).ls.a=some ⟨eg,0,none⟩:=f5;rw[cf] at b0;simp only[co] at b0;subst b0;have bb:Hid (((withHolds x y).os.z o).ls.a=some ⟨D,0,none⟩):=f5;have s1:M.cell? ⟨w.heap.size+1,1,none⟩=some (.slice x.os.a x.os.n x.os.c):=H.o.2.1.k 1;have c4:x.os.a=some ⟨gO,0,none⟩:=f1;rw[c4] at s1;have c5:M.cell? ⟨gO,o*2+1,none⟩=some (.slice (some ⟨D,0,none⟩) (x.os.z o).ls.n (x.os.z o).ls.c):=f4;have a4:M.cell? ⟨D,l*4+3,none⟩=some (.int .i64 ((x.os.z o).ls.z l).n):=bf;obtain⟨J,bg⟩:∃J,((x.os.z o).ls.z l).n=J:=⟨_,rfl⟩;have cy:Hid (((x.os.z o).ls.z l).n=J):=bg;have gy : -1000<=J/\J<=1000:=by
   rw[<-bg,bo.o];have:=fi (S.o.fm.line o ho l hl);have:=HN.o;omega
  rw[bg] at a4;have v1:x.os.n<=x.os.c:=H.o.1.os.le;have v2:x.os.c<=maxLen:=H.o.1.os.cap;have v3:(x.os.z o).ls.n<=(x.os.z o).ls.c:=f8;have v4:(x.os.z o).ls.c<=maxLen:=f9;unfold maxLen at v2 v4;have t1:=Qqq s1;have t2:=Qqq c5;have t3:=Qqq a4;clear bg f1 f2 f3 f4 f5 f6 f7 f8 f9 bx be f12 bz bf s1 c4 c5 a4 cf dk bo;go_wp2_with fail;refine dg (λw'=>∃p:Regrown,w'=grow (redrawn M p.d) p.os) (List.range 21) [] [(true,21)] (Qqx (brf.drew)) ?_;rw[show List.range 21=[0,1,2,3,4,5,6,7,8,9,10,11,12,13,14,15,16,17,18,19,20] from rfl];simp only[jg]
  repeat(go_big_quiet_step(fail))
  refine Qqz ?_;clear t1 t2 t3;refine⟨λ_ _ _ _=>True,Qjq _,Qjq _,Qjq _,λV G wj hS _ _ => ?_⟩;have u:=ae hS;have bh:=ah.below H.o.1 u;have Kj:=H.o.2.1.below u;have Fj:=H.o.2.2.1.below u;have Zj:=H.o.2.2.2.1.below u;have da:=H.o.2.2.2.2.1.trans (u.mono (Qzx hA H.o.2.2.2.2.1.size));obtain⟨B',a7,-,-,-,ad⟩:=bh.os.lines o ho1;rw[bb.o] at a7;simp only[co] at a7;subst a7;have zl:=ad.lt;have zf:=ad.frozen (l*4+3);obtain⟨gq,Bq,-,-,-,-,g5,-,-,-,-,-,-,-,-,zc⟩:=bh.lineCell (o:=o) (l:=l) ho1 an;rw[bb.o] at g5;simp only[co] at g5;subst g5;have df:=bh.setLine (o:=o) ho1 bb.o l 3 dc (J-t);have KC:=Kj.other (a:=⟨D,l*4+3,none⟩) (Blk.ne2 Kj ad dc) (.int .i64 (J-t));have FC:=Fj.other (a:=⟨D,l*4+3,none⟩) (Blk.ne2 Fj ad dc) (.int .i64 (J-t));have ZC:=Zj.other (a:=⟨D,l*4+3,none⟩) (Blk.ne2 Zj ad dc) (.int .i64 (J-t));have ds:=(bq.o.below u).setLine ad (l*4+3) (.int .i64 (J-t));have c9:=da.setCell (p:=⟨D,l*4+3,none⟩) (by show A<=D;omega) (.int .i64 (J-t));have L:Hid (Wx s o l n (Tk.go (avT s o l) n (rp p but (k+1))) (gh p) A (w.heap.size+1) D g (wj.setCell ⟨D,l*4+3,none⟩ (.int .i64 (J-t)))/\(Tk.go (avT s o l) n (rp p but (k+1))).left=N-t/\Below A w (wj.setCell ⟨D,l*4+3,none⟩ (.int .i64 (J-t)))/\uw w (wj.setCell ⟨D,l*4+3,none⟩ (.int .i64 (J-t)))):=by
   refine⟨⟨withHolds (setLine x o l 3 (J-t)) y,?_,df,KC.congr (λj hj=>by match j,hj with|0,_=>rfl|1,_=>rfl|2,_=>rfl|3,_=>rfl|4,_=>rfl|5,_=>rfl|6,_=>rfl),FC,?_,ZC⟩,?_,c9,ds⟩
   .rw[bd.o];have h:=H.o.2.2.2.2.2;rw[cy.o] at h;exact h
   .exact((dw (s:=x) (o:=o) (l:=l) (c:=3) (v:=J-t) o).2.1).trans bb.o
   rw[bd.o];show T.left-min T.left _=N-t;have h:=br.o t c1.o;rw[ba.o] at h;rw[h,HN.o]
  clear bh Kj Fj Zj da ad df KC FC ZC c9 ds bq u hS H;have gb:wj.cell? ⟨D,l*4+3,none⟩=some (.int .i64 ((x.os.z o).ls.z l).n):=zc;rw[cy.o] at gb;clear zc;simp only[dz];refine bu 21 rfl ?_;go_wp2_with fail;refine⟨fw.yes,?_⟩;refine NoPanic.normal ?_;go_wp2_with fail;go_roundw
  case rel=>exact⟨k+1,ow,vo,by rw[L.o.2.1],L.o.1,L.o.2.2.1,L.o.2.2.2⟩
  case measure=>simp[intOf];omega
theorem Py(p:Pl)(s:St)(w:World)(hp:p.At w)(hs:s.At w):
  Calls prog 72 #[p.val,s.val] w λe w'=>∃x:St,e = .returned (.tuple #[x.val,.int .i64 (ag p s)])/\x.At w'/\J4 p s x/\(ag p s=0->ah w.heap.size w' x)/\Bw w w':=by
 obtain⟨W0,hW,ay,X0,Z0⟩:∃W,(((w.alloc (.cells #[.slice p.ab p.nb p.cb,.slice p.sa p.ns p.cs] 25)).alloc (.cells s.cells 36)).alloc (.cells #[.slice .none 0 0,.slice .none 0 0,.slice .none 0 0,.slice .none 0 0,.slice .none 0 0,.slice .none 0 0,.slice .none 0 0] 36))=W/\Bw w W/\jj W w.heap.size (w.heap.size+1) p s/\Blk W (w.heap.size+2) 36 7 (λ_ => .slice .none 0 0):=
  ⟨_,rfl,(dx _ _ _).alloc oq _,(ku w p s _ _).below (brf.alloc nlr _),(Blk.mk' (cur:=#[.slice .none 0 0,.slice .none 0 0,.slice .none 0 0,.slice .none 0 0,.slice .none 0 0,.slice .none 0 0,.slice .none 0 0]) vq rfl).congr (λj hj=>by match j,hj with|0,_=>rfl|1,_=>rfl|2,_=>rfl|3,_=>rfl|4,_=>rfl|5,_=>rfl|6,_=>rfl)⟩
 have HC:Hid (∀A,Bw W0 A->jj A w.heap.size (w.heap.size+1) p s/\p.At A/\s.At A/\Bw w A/\Blk A (w.heap.size+2) 36 7 (λ_ => .slice .none 0 0)):=λA h=>⟨X0.below h,(hp.below ay).below h,(hs.below ay).below h,ay.trans (h.mono ay.size),Z0.below h⟩;unfold St.cells at hW;have HW:=hid hW;have leb:=hp.leb;have bu:=hp.capb;have les:=hp.les;have bv:=hp.caps;have capb:=bu;have caps:=bv;have fx:=Z0.lt;unfold maxLen at capb caps;clear hW X0 Z0 hp hs;unfold Pl.val St.val;go_enter func72,ntmps72;go_wp2_with fail;rw[HW.o];obtain⟨X,D,E,y,f⟩:=HC.o W0 brf;refine(nf p s W0 D E).mono ?_;rintro e w1 ⟨rfl,hB⟩;clear X D E y f HW;obtain⟨⟨⟨l1,d0,d1⟩,l2,c0,c1,c2,c3,c4,c5,c6⟩,D,E,y,f⟩:=HC.o w1 hB;by_cases h0:ag p s=0;rotate_left
 .have HNE:Hid (¬ag p s=0):=h0;have g0:(ag p s !=0)=true:=qh;clear h0 D E;have zl:=f.lt;have cv:=f.frozen 0;have ct:=f.k 0;have cw:=f.frozen 1;have zc1:=f.k 1;have cx:=f.frozen 2;have zc2:=f.k 2;have cy:=f.frozen 3;have zc3:=f.k 3;have cz:=f.frozen 4;have zc4:=f.k 4;have c7:=f.frozen 5;have zc5:=f.k 5;have c8:=f.frozen 6;have cu:=f.k 6;go_wp2_with fail;have KZ:=pc f (.slice .none 0 0) (.slice .none 0 0) (.slice .none 0 0) (.slice .none 0 0) (.slice .none 0 0) (.slice .none 0 0) (.slice .none 0 0);have hbz:=lr (b:=w.heap.size+2) y ow (.slice .none 0 0) (.slice .none 0 0) (.slice .none 0 0) (.slice .none 0 0) (.slice .none 0 0) (.slice .none 0 0) (.slice .none 0 0);unfold set7 at KZ hbz;obtain⟨bc,bd,be,bf,bg,bh,bi⟩:=dp KZ;refine Xzq (v := .tuple #[mw.val,.int .i64 (ag p s)]) (by simp[results,results72,go_sem,mw,St.val,bc,bd,be,bf,bg,bh,bi]) rfl ?_;exact amq
 have H0:Hid (ag p s=0):=h0;have HR:Hid (am p s):=et h0;rw[h0];clear h0;have c9:Hid (w.heap.size<=w1.heap.size):=y.size;have b6:Hid (Calls prog 105 #[s.val] w1 λe w'=>∃s':St,e = .returned s'.val/\af s' s/\ah w1.heap.size w' s'/\Bw w1 w'):=su p s w1 E HR.o.fm;clear D E y f;go_wp2_with fail;refine Calls.mono b6.o ?_;rintro e w4 ⟨x0,rfl,hsame,S,ax⟩;clear b6 l1 d0 d1 l2 c0 c1 c2 c3 c4 c5 c6;obtain⟨W5,cp,H,K5⟩:∃W,w4.alloc (.cells #[.slice x0.on.a x0.on.n x0.on.c,.slice x0.os.a x0.os.n x0.os.c,.slice x0.hs.a x0.hs.n x0.hs.c,.slice x0.ms.a x0.ms.n x0.ms.c,.slice x0.si.a x0.si.n x0.si.c,.slice x0.so.a x0.so.n x0.so.c,.slice x0.sf.a x0.sf.n x0.sf.c] 36)=W/\Bw w4 W/\Blk W w4.heap.size 36 7 (λj=>x0.cells.getD j default):=⟨_,rfl,brf.alloc nlr _,Blk.mk' rfl rfl⟩;have cf:=hid cp;have aj:=ax.trans (H.mono ax.size);have ch:=hB.trans (aj.mono hB.size);have t:Hid (de w1.heap.size w4.heap.size W0 (du x0 0) W5):=by
  show de w1.heap.size w4.heap.size W0 (du x0 0) W5;rw[V7];exact⟨ah.below S H,K5,ch,aj.size⟩
 have HS0:Hid (af x0 s):=hsame;have A1:W0.heap.size<=w1.heap.size:=hB.size;have A2:w1.heap.size<=w4.heap.size:=ax.size;have ol:x0.os.n<=x0.os.c:=(ah.below S H).os.le;have oc:x0.os.c<=maxLen:=(ah.below S H).os.cap;unfold maxLen at oc;have ey:x0.os.n<=4:=akf;clear cp S K5 ax H aj ch hsame hB;simp only[St.val];go_wp2_with fail;rw[cf.o];clear cf
 generalize w4.heap.size=r at *
 go_loopw [8] (λkv A=>∃k:Nat,k<=x0.os.n/\kv = .int .i64 k/\Hid (de w1.heap.size r W0 (du x0 k) A)) (λkv _=>x0.os.n-(intOf kv).toNat)
 case atStart=>exact⟨0,Qxz _,rfl,t⟩
 clear t;obtain⟨k,hk,rfl,HK⟩:=hrel;have F:wr.cell? ⟨r,1,none⟩=some (.slice x0.os.a x0.os.n x0.os.c):=HK.o.box.k 1;have u2:=HK.o.box.lt;by_cases hlt:k<x0.os.n
 .have q0:(0:Int)<=(k:Int):=ow;have q1:(k:Int)<(x0.os.n:Int):=ow;obtain⟨gO,J,g2,g3,g4,G,g6⟩:=HK.o.own.orderCells (o:=k) hlt;have L:x0.os.a=some ⟨gO,0,none⟩:=J;have HG:Hid (x0.os.a=some ⟨gO,0,none⟩):=J;have ek:(du x0 k).os.z k=x0.os.z k:=yr _ nlr;rw[ek] at g4 G;have ar:Hid ((du x0 k).os.z k=x0.os.z k):=ek;rw[L] at F;have gf:=g6 (k*2);clear J L g6 ek;by_cases M:(x0.os.z k).k=0;rotate_left
  .have HN:Hid (de w1.heap.size r W0 (du x0 (k+1)) wr):=by show de _ _ _ (du x0 (k+1)) _;rw[<-V6 M];exact HK.o
   have eu:((x0.os.z k).k !=0)=true:=by simpa using M
   clear M G ar
   generalize (x0.os.z k).k=KK at *
   exact ane
  have U:Hid ((x0.os.z k).k=0):=M;rw[M] at g4;have HN:Hid (de w1.heap.size r W0 (fp (di (du x0 k) k 1) k 0) (wr.setCell ⟨gO,k*2,none⟩ (.int .i64 1))):=by
   show de _ _ _ (fp (di (du x0 k) k 1) k 0) _;rw[Kt];obtain⟨gq,b1,b2,b3⟩:=HK.o.own.os.list Sn;have bb:x0.os.a=some ⟨gq,0,none⟩:=b1;rw[HG.o] at bb;simp only[co] at bb;subst bb;exact⟨HK.o.own.kind (o:=k) hlt b1 1,HK.o.box.other (a:=⟨gO,k*2,none⟩) (Blk.ne2 HK.o.box b3 dc) _,HK.o.bel.setCell (p:=⟨gO,k*2,none⟩) Sb _,akg⟩
  have au:Hid (∀j,((fp (di (du x0 k) k 1) k j).os.z k)=⟨1,Ag (x0.os.z k).ls j⟩):=λj=>by
   rw[zt,xv,ar.o]
  have ec:Hid (∀j,j<(x0.os.z k).ls.n->((x0.os.z k).ls.z j).b=0):=λj hj=>by
   have e:=HS0.o.os.2 k hlt;rw[e.2.2 j hj];exact(Ll HR.o (k:=k+1) ak6 aao ⟨ow,e.1▸U.o⟩).2.1
  have a7:Hid ((x0.os.z k).ls.n<=(x0.os.z k).ls.c/\(x0.os.z k).ls.c<=maxLen):=by
   have h:=HK.o.own.at.os.ods k hlt;rw[ar.o] at h;obtain⟨_,_,_,_,_,_,h⟩:=h;exact⟨h.le,h.cap⟩
  have ll:=a7.o.1;have lc:=a7.o.2;unfold maxLen at lc;clear M ar a7;go_wp2_with fail;clear g4 G gf F u2 HK
  go_loopw [9] (λjv A=>∃j:Nat,j<=(x0.os.z k).ls.n/\jv = .int .i64 j/\Hid (de w1.heap.size r W0 (fp (di (du x0 k) k 1) k j) A)) (λjv _=>(x0.os.z k).ls.n-(intOf jv).toNat)
  case atStart=>exact⟨0,Qxz _,rfl,HN⟩
  clear HN;obtain⟨j,hj,rfl,HK⟩:=hrel;have F:wr.cell? ⟨r,1,none⟩=some (.slice x0.os.a x0.os.n x0.os.c):=HK.o.box.k 1;have u2:=HK.o.box.lt;rw[HG.o] at F;obtain⟨gq,J,fz,f0,g4,G,g6⟩:=HK.o.own.orderCells (o:=k) hlt;have L:x0.os.a=some ⟨gq,0,none⟩:=J;rw[HG.o] at L;simp only[co] at L;subst L;rw[au.o j] at G;have bm:wr.cell? ⟨gO,k*2+1,none⟩=some (.slice (x0.os.z k).ls.a (x0.os.z k).ls.n (x0.os.z k).ls.c):=G;clear J g4 G g6;by_cases az:j<(x0.os.z k).ls.n;rotate_left
  .have ac:j=(x0.os.z k).ls.n:=ow;have HN:Hid (de w1.heap.size r W0 (du x0 (k+1)) wr):=by
    have h:=HK.o;have e:Ow (du x0 k) k=fp (di (du x0 k) k 1) k j:=by
     unfold Ow;have e2:((du x0 k).os.z k).ls.n=j:=by show(iw k k (x0.os.z k)).ls.n=j;rw[Di];exact ac.symm
     rw[e2]
    show de _ _ _ (du x0 (k+1)) _;rw[<-Zt U.o,e];exact h
   subst ac;exact ane
  have q2:(0:Int)<=(j:Int):=ow;have q3:(j:Int)<((x0.os.z k).ls.n:Int):=ow;have ew:j<((fp (di (du x0 k) k 1) k j).os.z k).ls.n:=by rw[au.o];exact az
  obtain⟨gr,BL,f1,f2,f3,f4,f5,f6,f7,f8,f9,bj,av,f12,aw,Y⟩:=HK.o.own.lineCell (o:=k) (l:=j) hlt ew;rw[au.o] at f5 av f12 aw Y;have bl:(x0.os.z k).ls.a=some ⟨BL,0,none⟩:=f5;have b7:Hid (((fp (di (du x0 k) k 1) k j).os.z k).ls.a=some ⟨BL,0,none⟩):=by show((fp (di (du x0 k) k 1) k j).os.z k).ls.a=_;rw[au.o];exact bl
  have f:(Ag (x0.os.z k).ls j).z j=(x0.os.z k).ls.z j:=if_neg (Nat.lt_irrefl _);have bk:wr.cell? ⟨BL,j*4+1,none⟩=some (.int .i64 ((x0.os.z k).ls.z j).l):=by rw[<-f];exact f12
  have ei:Hid (setLine (fp (di (du x0 k) k 1) k j) k j 3 ((x0.os.z k).ls.z j).l=fp (di (du x0 k) k 1) k (j+1)):=by
   have e:((di (du x0 k) k 1).os.z k).ls.z j=(x0.os.z k).ls.z j:=by rw[xv];show((iw k k (x0.os.z k)).ls.z j)=_;rw[yr _ nlr]
   have h:=afj (s:=di (du x0 k) k 1) (i:=k) (k:=j) (by rw[e];exact ec.o j az);rw[e] at h;exact h
  rw[bl] at bm;have t1:=Qqq F;have t2:=Qqq bm;have t3:=Qqq bk;clear f1 f2 f3 f4 f5 bl f6 f8 f9 bj av f12 bk aw Y f;go_wp2_with fail;clear F bm;refine jq [(true,[0,1,2,3,4,5,6,7,8,9,10,11,12,13,14,15,16,17,18],some 19)] ?_;refine⟨λw'=>∃p:Regrown,w'=grow (redrawn wr p.d) p.os,Qqx (brf.drew),λh=>ix,?_⟩;simp only[jg]
  repeat(go_big_quiet_step(fail))
  refine Qqz ?_;clear t1 t2 t3;have q:Bw wr wr.drew:=brf.drew
  generalize wr.drew=wj at *
  have bq:=HK.o.own.below q;have Kj:=HK.o.box.below q;have cj:=HK.o.bel.trans (q.mono HK.o.bel.size);have cm:=Qzx HK.o.le q.size;obtain⟨Bq,ak,ga,-,-,ad⟩:=bq.os.lines k hlt;rw[b7.o] at ak;simp only[co] at ak;subst ak;have zl:=ad.lt;have zf:=ad.frozen (j*4+3);have zc:=ad.cell (j:=j*4+3) ow;have bp:=bq.setLine (o:=k) hlt b7.o j 3 dc ((x0.os.z k).ls.z j).l;have cl:=Kj.other (a:=⟨BL,j*4+3,none⟩) (Blk.ne2 Kj ad dc) (.int .i64 ((x0.os.z k).ls.z j).l);have ci:=cj.setCell (p:=⟨BL,j*4+3,none⟩) Cx (.int .i64 ((x0.os.z k).ls.z j).l);rw[ei.o] at bp;have HN:Hid (de w1.heap.size r W0 (fp (di (du x0 k) k 1) k (j+1)) (wj.setCell ⟨BL,j*4+3,none⟩ (.int .i64 ((x0.os.z k).ls.z j).l))):=⟨bp,cl,ci,by simpa using cm⟩;clear bq Kj cj cm ad bp cl ci q HK
  generalize (ba ((fp (di (du x0 k) k 1) k j).os.z k).ls.n ((fp (di (du x0 k) k 1) k j).os.z k).ls.z).getD (j*4+3) default=VV at zc
  generalize ((x0.os.z k).ls.z j).l=LV at *
  refine ma 19 rfl ?_;exact amh
 have ev:k=x0.os.n:=ow;subst ev;have HY:Hid (Ar p s 0 (du x0 x0.os.n)):=by
  show af _ _;rw[HS0.o.os.1];exact Ni HS0.o _
 go_wp2_with fail;clear F u2
 go_loopw [10] (λkv A=>∃(i:Nat) (cur:St),i<=s.os.n/\kv = .int .i64 i/\Hid (de w1.heap.size r W0 cur A)/\Hid (Ar p s i cur)) (λkv _=>s.os.n-(intOf kv).toNat)
 case atStart=>exact⟨0,_,Qxz _,rfl,HK,HY⟩
 clear HY HK HS0 hk hlt ol oc ey;obtain⟨i,cur,hi,rfl,HK,HA⟩:=hrel;have B:Hid (Pos p (-1) (xo s) (du s s.os.n) i 0 cur):=jc.pos (Ak HR.o) (λa _=>rj s a) hi HA.o;have HN0:Hid (cur.os.n=s.os.n):=B.o.al.osn;have n1:(cur.os.n:Int)<=(s.os.n:Int):=Su;have n2:(s.os.n:Int)<=(cur.os.n:Int):=Su;have F:wr.cell? ⟨r,1,none⟩=some (.slice cur.os.a cur.os.n cur.os.c):=HK.o.box.k 1;have u2:=HK.o.box.lt;have ol:cur.os.n<=cur.os.c:=HK.o.own.os.le;have oc:cur.os.c<=maxLen:=HK.o.own.os.cap;unfold maxLen at oc;by_cases hlt:i<s.os.n;rotate_left
 .have es:i=s.os.n:=ow;have eh:Hid (nz p s cur):=by have h:=HA.o;rw[es] at h;exact h
  have q4:(cur.os.n:Int)<=(i:Int):=ow;have q5:cur.os.n<=i:=ow;obtain⟨m1,p0,p1,p2,p3,p4,p5,p6⟩:=Boxed.of HK.o.box;obtain⟨-,-,-,y,f⟩:=HC.o wr HK.o.bel;have HZ:Hid (Bw w wr/\Blk wr (w.heap.size+2) 36 7 (λ_ => .slice .none 0 0)):=⟨y,f⟩;have zl:=f.lt;have cv:=f.frozen 0;have ct:=f.k 0;have cw:=f.frozen 1;have zc1:=f.k 1;have cx:=f.frozen 2;have zc2:=f.k 2;have cy:=f.frozen 3;have zc3:=f.k 3;have cz:=f.frozen 4;have zc4:=f.k 4;have c7:=f.frozen 5;have zc5:=f.k 5;have c8:=f.frozen 6;have cu:=f.k 6;have fb:=(HC.o _ brf).2.2.2.1.size;clear y f;go_wp2_with fail;have KZ:=pc HZ.o.2 (.slice cur.on.a cur.on.n cur.on.c) (.slice cur.os.a cur.os.n cur.os.c) (.slice cur.hs.a cur.hs.n cur.hs.c) (.slice cur.ms.a cur.ms.n cur.ms.c) (.slice cur.si.a cur.si.n cur.si.c) (.slice cur.so.a cur.so.n cur.so.c) (.slice cur.sf.a cur.sf.n cur.sf.c);have hbz:=lr (b:=w.heap.size+2) HZ.o.1 ow (.slice cur.on.a cur.on.n cur.on.c) (.slice cur.os.a cur.os.n cur.os.c) (.slice cur.hs.a cur.hs.n cur.hs.c) (.slice cur.ms.a cur.ms.n cur.ms.c) (.slice cur.si.a cur.si.n cur.si.c) (.slice cur.so.a cur.so.n cur.so.c) (.slice cur.sf.a cur.sf.n cur.sf.c);have br:=ah.set7 HK.o.own HZ.o.2 (.slice cur.on.a cur.on.n cur.on.c) (.slice cur.os.a cur.os.n cur.os.c) (.slice cur.hs.a cur.hs.n cur.hs.c) (.slice cur.ms.a cur.ms.n cur.ms.c) (.slice cur.si.a cur.si.n cur.si.c) (.slice cur.so.a cur.so.n cur.so.c) (.slice cur.sf.a cur.sf.n cur.sf.c);unfold set7 at KZ hbz br;obtain⟨bc,bd,be,bf,bg,bh,bi⟩:=dp KZ;refine Xzq (v := .tuple #[cur.val,.int .i64 0]) (by simp[results,results72,go_sem,St.val,bc,bd,be,bf,bg,bh,bi]) rfl ?_;exact⟨cur,N0,br.at,⟨λ_=>eh.o,λh=>absurd H0.o h⟩,λ_=>br.mono c9.o,hbz⟩
 have q0:(0:Int)<=(i:Int):=ow;have q1:(i:Int)<(cur.os.n:Int):=ow;have ez:i<cur.os.n:=ow;have u:Hid (ze p s i 0 cur):=HA.o.row;have t:Hid (¬((du s s.os.n).os.z i).k=1->Ar p s (i+1) cur):=λh=>HA.o.skip HR.o hlt h;go_wp2_with fail;clear F u2 ol oc q1 ez n1 n2 HA B HN0
 go_loopw [11] (λjv A=>∃(j:Nat) (g:St),j<=(s.os.z i).ls.n/\jv = .int .i64 j/\Hid (de w1.heap.size r W0 g A)/\Hid (ze p s i j g)/\Hid (¬((du s s.os.n).os.z i).k=1->Ar p s (i+1) g)) (λjv _=>(s.os.z i).ls.n-(intOf jv).toNat)
 case atStart=>exact⟨0,cur,Qxz _,rfl,HK,u,t⟩
 clear HK u t;obtain⟨j,g,hj,rfl,HK,u,t⟩:=hrel;have B:Hid (Pos p (-1) (xo s) (du s s.os.n) i j g):=u.o.pos HR.o hlt hj;have en:=B.o.al.osn;have cg:g.os.n=s.os.n:=en;have bs:i<g.os.n:=by rw[cg];exact hlt
 have q1:(i:Int)<(g.os.n:Int):=ow;have kk:=B.o.al.kind i hlt;have V:Hid ((g.os.z i).k=((du s s.os.n).os.z i).k):=kk.1;have kn:(g.os.z i).ls.n=(s.os.z i).ls.n:=kk.2.trans (rj s i).symm;have fy:Hid ((g.os.z i).ls.n=(s.os.z i).ls.n):=kn;obtain⟨gO,J,g2,g3,g4,G,g6⟩:=HK.o.own.orderCells (o:=i) bs;have F:wr.cell? ⟨r,1,none⟩=some (.slice g.os.a g.os.n g.os.c):=HK.o.box.k 1;rw[J] at F;have HG:Hid (g.os.a=some ⟨gO,0,none⟩):=J;have u2:=HK.o.box.lt;have ol:g.os.n<=g.os.c:=HK.o.own.os.le;have oc:g.os.c<=maxLen:=HK.o.own.os.cap;unfold maxLen at oc;have ee:=HK.o.own.at.os.ods i bs;obtain⟨_,_,_,_,_,_,bt⟩:=ee;have ll:=bt.le;have lc:=bt.cap;unfold maxLen at lc;clear J g6 en cg kk bt;by_cases az:j<(g.os.z i).ls.n;rotate_left
 .have ac:j=(s.os.z i).ls.n:=ow;have HN:Hid (Ar p s (i+1) g):=by have h:=u.o;rw[ac] at h;exact h.next
  have q4:((g.os.z i).ls.n:Int)<=(j:Int):=ow;have q5:¬(j:Int)<((g.os.z i).ls.n:Int):=ow;clear ac V t u B;exact am9
 have q2:(0:Int)<=(j:Int):=ow;have q3:(j:Int)<((g.os.z i).ls.n:Int):=ow;by_cases Q:(g.os.z i).k=1;rotate_left
 .have HN:Hid (Ar p s (i+1) g):=t.o (by rw[<-V.o];exact Q);have eu:((g.os.z i).k==1)=false:=by simpa using Q
  clear Q V t u B
  generalize (g.os.z i).k=KK at *
  exact am9
 have U:Hid (((du s s.os.n).os.z i).k=1):=V.o.symm.trans Q;rw[Q] at g4;clear Q;have cq:j<(s.os.z i).ls.n:=ow;have cc:Hid (lf p (-1) g i j (xo s i j)):=u.o.stepIn HR.o hlt cq;have HQ:Hid (xo s i j=((g.os.z i).ls.z j).n):=by
  have e:=B.o.later i j hlt (by rw[<-rj];exact cq) (λe=>aag);rw[e.1];exact if_pos U.o
 obtain⟨gr,BL,f1,f2,f3,f4,f5,f6,f7,f8,f9,bj,av,f12,aw,Y⟩:=HK.o.own.lineCell (o:=i) (l:=j) bs az;rw[f5] at G;obtain⟨⟨⟨l1,d0,d1⟩,l2,c0,c1,c2,c3,c4,c5,c6⟩,D,E,y,f⟩:=HC.o wr HK.o.bel;obtain⟨m1,p0,p1,p2,p3,p4,p5,p6⟩:=Boxed.of HK.o.box;rw[HG.o] at p1;have b9:Hid (p.At wr):=D;have cd:Hid (∀x,ng p (-1) g i j ((g.os.z i).ls.z j).n x->ze p s i (j+1) x):=λx T=>u.o.step (by rw[HQ.o];exact T);have ce:Hid (i9 p g i j ((g.os.z i).ls.z j).n):=by show i9 _ _ _ _ _;rw[<-HQ.o];exact cc.o.tki
 clear f1 f2 f3 f4 f5 f6 f8 f9 bj av f12 aw D E y f c0 c1 c2 c3 c4 c5 c6 l2 cc u B V t
 generalize ((g.os.z i).ls.z j).n=NB at *
 have t0:∀d os,(grow (redrawn wr d) os).cell? ⟨w.heap.size,0,none⟩=some (.slice p.ab p.nb p.cb):=λdd os=>Qqq d0 dd os;have t1:∀d os,(grow (redrawn wr d) os).cell? ⟨w.heap.size,1,none⟩=some (.slice p.sa p.ns p.cs):=λdd os=>Qqq d1 dd os;have s0:=Qqq p0;have s1:=Qqq p1;have s2:=Qqq p2;have s3:=Qqq p3;have s4:=Qqq p4;have s5:=Qqq p5;have s6:=Qqq p6;have s7:=Qqq G;have s8:=Qqq Y;clear d0 d1 p0 p1 p2 p3 p4 p5 p6 Y;go_wp2_with fail;clear F g4 G;refine jq [(true,[0,1,2,3,4,5,6,7,8,9,10,11,12,13],some 14),(false,[15,16,17],some 18)] ?_;refine⟨λw'=>∃p:Regrown,w'=grow (redrawn wr p.d) p.os,Qqx (brf.drew),λh=>ix,?_⟩;simp only[jg]
 repeat(go_big_quiet_step(fail))
 refine Qqz ?_;clear t0 t1 s0 s1 s2 s3 s4 s5 s6 s7 s8;have q:Bw wr wr.drew:=brf.drew
 generalize wr.drew=wj at *
 have ca:Hid (p.At wj):=b9.o.below q;have b8:Hid (ah w1.heap.size wj g):=HK.o.own.below q;have a8:Hid (w1.heap.size<=wj.heap.size):=Qzx HK.o.le q.size;have b5:Hid (Bw W0 wj):=HK.o.bel.trans (q.mono HK.o.bel.size);have b4:Hid (Blk wj r 36 7 (λj=>g.cells.getD j default)):=HK.o.box.below q;clear q b9 HK;refine ma 14 rfl ?_;go_wp2_with fail;rw[<-HG.o];refine(Qf p g i j w1.heap.size NB (-1) wj ca.o b8.o a8.o ce.o).mono ?_;rintro e w8 ⟨x,rfl,T,cn,bo,ck⟩;have HT:Hid (ze p s i (j+1) x):=cd.o x T;have a5:Hid (Blk w8 r 36 7 (λj=>g.cells.getD j default)):=ck _ _ _ _ dc b4.o;have ef:Hid (ah w1.heap.size w8 x):=cn;have ed:Hid (Bw W0 w8):=b5.o.trans (bo.mono A1);have HE8:Hid (w1.heap.size<=w8.heap.size):=Qzx a8.o bo.size;clear T cn bo ck cd ce ca b8 a8 b5 b4 HG
 generalize (Tk.go (avT g i j) NB (fh p (-1))).left=LL at *
 simp only[St.val];go_wp2_with fail;refine⟨λ_=>True,trivial,λ_ _=>trivial,?_⟩;simp only[jg]
 repeat(go_big_quiet_step(fail))
 refine Qqz ?_;have m:=a5.o;have zl:=m.lt;have cv:=m.frozen 0;have ct:=m.k 0;have cw:=m.frozen 1;have zc1:=m.k 1;have cx:=m.frozen 2;have zc2:=m.k 2;have cy:=m.frozen 3;have zc3:=m.k 3;have cz:=m.frozen 4;have zc4:=m.k 4;have c7:=m.frozen 5;have zc5:=m.k 5;have c8:=m.frozen 6;have cu:=m.k 6;clear m;refine ma 18 rfl ?_;go_wp2_with fail;have HN:Hid (de w1.heap.size r W0 x (set7 w8 r (.slice x.on.a x.on.n x.on.c) (.slice x.os.a x.os.n x.os.c) (.slice x.hs.a x.hs.n x.hs.c) (.slice x.ms.a x.ms.n x.ms.c) (.slice x.si.a x.si.n x.si.c) (.slice x.so.a x.so.n x.so.c) (.slice x.sf.a x.sf.n x.sf.c))):=by
  have K:=pc a5.o (.slice x.on.a x.on.n x.on.c) (.slice x.os.a x.os.n x.os.c) (.slice x.hs.a x.hs.n x.hs.c) (.slice x.ms.a x.ms.n x.ms.c) (.slice x.si.a x.si.n x.si.c) (.slice x.so.a x.so.n x.so.c) (.slice x.sf.a x.sf.n x.sf.c);have hb:=lr (b:=r) ed.o (Qzx A1 A2) (.slice x.on.a x.on.n x.on.c) (.slice x.os.a x.os.n x.os.c) (.slice x.hs.a x.hs.n x.hs.c) (.slice x.ms.a x.ms.n x.ms.c) (.slice x.si.a x.si.n x.si.c) (.slice x.so.a x.so.n x.so.c) (.slice x.sf.a x.sf.n x.sf.c);exact⟨ah.set7 ef.o a5.o (.slice x.on.a x.on.n x.on.c) (.slice x.os.a x.os.n x.os.c) (.slice x.hs.a x.hs.n x.hs.c) (.slice x.ms.a x.ms.n x.ms.c) (.slice x.si.a x.si.n x.si.c) (.slice x.so.a x.so.n x.so.c) (.slice x.sf.a x.sf.n x.sf.c),K.congr (λj hj=>by match j,hj with|0,_=>rfl|1,_=>rfl|2,_=>rfl|3,_=>rfl|4,_=>rfl|5,_=>rfl|6,_=>rfl),hb,ag0⟩
 unfold set7 at HN;refine NoPanic.normal ?_;go_wp2_with fail;go_roundw
 case rel=>exact⟨j+1,x,ow,vo,HN,HT,λh=>absurd U.o h⟩
 case measure=>simp[intOf];omega
theorem X9(h:af x s){o:Nat}(b:o<x.os.n){k:Hs}(a:k.n=(eu s.hs (λx=>x.o==(o:Int))).n)(d:∀j,j<k.n->k.z j=(eu s.hs (λx=>x.o==(o:Int))).z j):af (fp (di (withHolds x k) o 2) o (x.os.z o).ls.n) (ew s o):=
 have c:=Ip h b
 ⟨c.on,c.os,⟨a,d⟩,c.ms,c.si,c.so,c.sf⟩
theorem Ql(p:Pl)(s:St)(order:Int)(w:World)(hp:p.At w)(hs:s.At w):
  Calls prog 73 #[p.val,s.val,.int .i64 order] w λe w'=>∃x:St,e = .returned (.tuple #[x.val,.int .i64 (gy p s order)])/\x.At w'/\jb (gy p s order) (ew s order.toNat) x/\(gy p s order=0->ah w.heap.size w' x)/\Bw w w':=by
 obtain⟨W0,hW,e0,X0,Z0⟩:=Dh w p s;have HC:=Cq hp hs e0 X0 Z0;have HW:=hid hW;have leb:=hp.leb;have bp:=hp.capb;have les:=hp.les;have bq:=hp.caps;have capb:=bp;have caps:=bq;have gs:=Z0.lt;unfold maxLen at capb caps;have g7:=hs.os.le;have dw:=hs.os.cap;have fc:=dw;unfold maxLen at fc;clear hW X0 Z0 hp hs;unfold Pl.val St.val;go_enter func73,ntmps73;go_wp2_with fail;rw[HW.o];obtain⟨X,A,f,i,m⟩:=HC.o W0 brf;refine(nf p s W0 A f).mono ?_;rintro e w1 ⟨rfl,hB⟩;clear X A f i m HW;obtain⟨⟨⟨l1,d0,d1⟩,l2,c0,c1,c2,c3,c4,c5,c6⟩,A,f,i,m⟩:=HC.o w1 hB;by_cases h0:ag p s=0;rotate_left
 .have HX:Hid (gy p s order=ag p s):=Bd h0;have an:Hid (¬gy p s order=0):=atf;have g0:(ag p s !=0)=true:=qh;clear h0;clear A f;obtain⟨zl,cv,cs,cw,zc1,cx,zc2,cy,zc3,cz,zc4,c7,zc5,c8,cu⟩:=z7 m;go_wp2_with fail;exact mu results73 m i ow HX.o (λh=>an.o (HX.o.trans h)) rfl rfl rfl
 have H0:=hid h0;have HR:Hid (am p s):=et h0;rw[h0];clear h0;cases k1:inB order 0 ((s.os.n:Int)-1)
 .have HX:Hid (gy p s order=4):=F8 H0.o k1;have an:Hid (¬gy p s order=0):=pr;exact avc
 have e8:=ar k1;obtain⟨o,rfl⟩:=Qzz e8.1;have ho:o<s.os.n:=ow;have q0:(0:Int)<=(o:Int):=ow;obtain⟨bo,oo,bf,e5,z0,z1,fb⟩:=f.os.ods o ho;have b6:=hid bf;rw[bf] at c1;clear bf z1 fb;by_cases k2:(s.os.z o).k=2
 .have HX:Hid (gy p s (o:Int)=6):=F7 H0.o k1 k2;have an:Hid (¬gy p s (o:Int)=0):=pr;rw[k2] at z0;clear k2;exact avc
 have HX:Hid (gy p s (o:Int)=0):=Qx H0.o k1 k2;have g2:((s.os.z o).k==2)=false:=by simpa using k2
 clear k2
 generalize (s.os.z o).k=KK at *
 have dd:=hid i.size;have bx:Hid (Calls prog 105 #[s.val] w1 λe w'=>∃s':St,e = .returned s'.val/\af s' s/\ah w1.heap.size w' s'/\Bw w1 w'):=su p s w1 f HR.o.fm;clear A f i m;go_wp2_with(go_at_call 34;refine ap (da _ _ _ _) ?_);rw[<-b6.o];refine Calls.mono bx.o ?_;rintro e w4 ⟨x0,rfl,hsame,bg,Y⟩;clear bx l1 d0 d1 l2 c0 c1 c2 c3 c4 c5 c6 z0 e5 k1 g2 b6;obtain⟨W5,cl,Q,K5⟩:∃W,w4.alloc (.cells #[.slice x0.on.a x0.on.n x0.on.c,.slice x0.os.a x0.os.n x0.os.c,.slice none 0 0,.slice x0.ms.a x0.ms.n x0.ms.c,.slice x0.si.a x0.si.n x0.si.c,.slice x0.so.a x0.so.n x0.so.c,.slice x0.sf.a x0.sf.n x0.sf.c] 36)=W/\Bw w4 W/\Blk W w4.heap.size 36 7 (λj=>(withHolds x0 ⟨none,0,0,ofL []⟩).cells.getD j default):=⟨_,rfl,brf.alloc nlr _,Blk.mk' rfl rfl⟩;have b9:=hid cl;have L:=Y.trans (Q.mono Y.size);have cd:=hB.trans (L.mono hB.size);have y:o<x0.os.n:=Nx;have b8:=hid hsame;have A1:W0.heap.size<=w1.heap.size:=hB.size;have A2:w1.heap.size<=w4.heap.size:=Y.size;have b4:Hid (de w1.heap.size w4.heap.size W0 (withHolds x0 ⟨none,0,0,ofL []⟩) W5):=⟨(ah.below bg Q).withHolds (h:=⟨none,0,0,ofL []⟩) (ct.nil _ _ _ _),K5,cd,L.size⟩;have D:Hid (gp w1.heap.size W5 107 4 none 0):=Or.inl rfl;clear cl bg K5 Y Q L cd hsame hB;simp only[St.val];go_wp2_with fail;rw[b9.o]
 generalize w4.heap.size=B7 at *
 go_loopw [10] (λkv wk=>∃(k:Nat) (h:Hs),k<=s.hs.n/\kv = .int .i64 k/\Hid (de w1.heap.size B7 W0 (withHolds x0 h) wk)/\Hid (gp w1.heap.size wk 107 4 h.a h.c)/\Hid (h.n=(rt s.hs (λx=>x.o==(o:Int)) k).length/\h.z=ofL (rt s.hs (λx=>x.o==(o:Int)) k))) (λkv _=>s.hs.n-(intOf kv).toNat)
 case atStart=>exact⟨0,⟨none,0,0,ofL []⟩,Qxz _,rfl,b4,D,⟨rfl,rfl⟩⟩
 clear b4 D b9;obtain⟨k,h,hk,rfl,HK,D,H⟩:=hrel;obtain⟨⟨⟨l1,d0,d1⟩,l2,c0,c1,c2,c3,c4,c5,c6⟩,A,f,i,m⟩:=HC.o wr HK.o.bel;have gz:=f.hs.le;have e6:=f.hs.cap;unfold maxLen at e6;have gv:=HR.o.fm.hs72;by_cases be:k<s.hs.n
 .have q2:(0:Int)<=(k:Int):=ow;have q3:(k:Int)<(s.hs.n:Int):=ow;obtain⟨bh,oh,cn,gx,v0,v1,v2,v3⟩:=f.hs.hds k be;rw[cn] at c2;clear cn A f i m;by_cases bd:(s.hs.z k).o=(o:Int)
  .have HN:Hid (h.n=(rt s.hs (λx=>x.o==(o:Int)) (k+1)).length/\h.z=ofL (rt s.hs (λx=>x.o==(o:Int)) (k+1))):=by
    show h.n=_/\h.z=_;rw[afi be Sx];exact H.o
   have g3:((s.hs.z k).o !=(o:Int))=false:=Sx;clear bd
   generalize s.hs.z k=Z at *
   go_wp2_with fail;go_roundw
   case rel=>exact⟨k+1,h,ow,vo,HK,D,HN⟩
   case measure=>simp[intOf];omega
  have ak:Hid (rt s.hs (λx=>x.o==(o:Int)) (k+1)=rt s.hs (λx=>x.o==(o:Int)) k++[s.hs.z k]):=ai3 be Sx;have g3:((s.hs.z k).o !=(o:Int))=true:=Sx;have r:Hid (h.n<=72):=by have:=ai4 s.hs (λx=>x.o==(o:Int)) k;have:=H.o.1;show h.n<=72;omega
  clear bd;obtain⟨-,p0,p1,p2,p3,p4,p5,p6⟩:=Boxed.of HK.o.box;have cr:wr.cell? ⟨B7,2,none⟩=some (.slice h.a h.n h.c):=p2;have HZ:Hid (∃Z,s.hs.z k=Z):=⟨_,rfl⟩
  generalize s.hs.z k=Z at *
  have t1:=Qqq cr;have t2:=Qqq c2;have t3:=Qqq v0;have t4:=Qqq v1;have t5:=Qqq v2;have t6:=Qqq v3;have xl:=HK.o.box.lt;clear p0 p1 p2 cr p3 p4 p5 p6 HZ;go_wp2_with fail;clear c0 c1 c2 c3 c4 c5 c6 v0 v1 v2 v3;refine dg (λw'=>∃p:Regrown,w'=grow (redrawn wr p.d) p.os) [0,1,2,3,4,5,6] [] [(false,7),(true,8),(true,9),(true,10)] (Qqx (brf.drew)) ?_;simp only[jg]
  repeat(go_big_quiet_step(fail))
  refine Qqz ?_;clear t1 t2 t3 t4 t5 t6;refine⟨λ_ _ _ _=>True,Qjq _,Qjq _,Qjq _,λV G T hS _ _ => ?_⟩;have t:=ae hS;clear hS;obtain⟨W9,bb,bc,K9⟩:∃W,T.alloc (.cells #[.int .i64 Z.o,.int .i64 Z.l,.int .i64 Z.b,.int .i64 Z.n] 107)=W/\Bw T W/\Blk W T.heap.size 107 4 (λj=>(#[.int .i64 Z.o,.int .i64 Z.l,.int .i64 Z.b,.int .i64 Z.n]:Array Value).getD j default):=⟨_,rfl,brf.alloc nlr _,Blk.mk' rfl rfl⟩;have ed:=hid bb;have F:=t.trans (bc.mono t.size);have J:=hid (HK.o.own.below F);have b7:=hid (D.o.below F);have ca:=hid (HK.o.box.below F);have aj:=hid (HK.o.bel.trans (F.mono HK.o.bel.size));have U:Hid (w1.heap.size<=W9.heap.size):=Qzx HK.o.le F.size;have b5:Hid (∀j u,(dt Z)[j]?=some u->W9.cell? ((⟨T.heap.size,0,none⟩:Addr).add j)=some u):=by rw[<-bb];exact Kx _ _ _
  have d7:=hid F;clear t bc F bb K9 HK D;simp only[dz];refine bu 7 rfl ?_;go_wp2_with fail;rw[ed.o];refine⟨fw.no (Qqx d7.o),?_⟩;obtain⟨iO,hO,es,ev,ex⟩:=info_parts Nb;refine bu 8 rfl ?_;go_wp2_with(at_builtin;refine vv W9 rfl (.tmp 54) (.tmp 60) 33 rfl w1.heap.size 107 iO (.agg #[.int .i64 0,.int .i64 0,.int .i64 0,.int .i64 0]) 4 32 underlying33 hO es ev ex rfl dc h.a h.n h.c (ba h.n h.z) rfl b7.o J.o.hs.1 J.o.hs.2.1 (iz _ _) J.o.hs.2.2.2 ⟨T.heap.size,0,none⟩ 1 1 (dt Z) rfl rfl b5.o (Ib _) dc ?zc3 ?zc4 ?zc5 ?_)
  case zc3=>have:=r.o;unfold maxLen;omega
  case zc4=>have:=r.o;omega
  case zc5=>exact U.o
  intro v2 w2 B q;have b0:Hid (∃g:Hs,v2 = .slice g.a g.n g.c/\(g.n=(rt s.hs (λx=>x.o==(o:Int)) (k+1)).length/\g.z=ofL (rt s.hs (λx=>x.o==(o:Int)) (k+1)))/\ct w1.heap.size 107 w2 g/\gp w1.heap.size w2 107 4 g.a g.c):=by
   have e:ba h.n h.z++dt Z=ba (rt s.hs (λx=>x.o==(o:Int)) (k+1)).length (ofL (rt s.hs (λx=>x.o==(o:Int)) (k+1))):=by
    rw[ak.o,afd,H.o.1,H.o.2]
   have e2:h.n+1=(rt s.hs (λx=>x.o==(o:Int)) (k+1)).length:=by rw[ak.o,List.length_append,H.o.1];rfl
   rw[e,e2] at B;obtain⟨g,a1,a2,a3,a4,a5⟩:=ct.ofOwns B (λe3=>by
    rcases B.2 with⟨_,e4⟩|⟨_,_,_,e4,_⟩
    .omega
    rw[e3] at e4;cases e4)
   exact⟨g,a1,⟨a2,a3⟩,a4,a5⟩
  obtain⟨g,rfl,ch,M,ck⟩:=b0.o;have d8:=hid ch;have K2:=q.blk ca.o dc;have z1:=K2.lt;have z2:=K2.frozen 2;have z3:=K2.k 2;have cj:=J.o.moreH q M;have HN:Hid (de w1.heap.size B7 W0 (withHolds x0 g) (w2.setCell ⟨B7,2,none⟩ (.slice g.a g.n g.c))):=by
   have e1:=q.below aj.o ow aj.o.size;exact⟨cj.box K2 2 _,(K2.set 2 _).congr (λj hj=>by match j,hj with|0,_=>rfl|1,_=>rfl|2,_=>rfl|3,_=>rfl|4,_=>rfl|5,_=>rfl|6,_=>rfl),e1.setCell (p:=⟨B7,2,none⟩) G6 _,by
    have h1:=M;have h3:w1.heap.size<=w2.heap.size:=Qzx U.o (q.below (Below.refl w1.heap.size W9) nlr U.o).size
    simpa using h3⟩
  have d9:Hid (gp w1.heap.size (w2.setCell ⟨B7,2,none⟩ (.slice g.a g.n g.c)) 107 4 g.a g.c):=ck.set _ _ _;clear B q ch M ck K2 cj b0 J b7 ca aj U b5 ak H r;refine o6 ⟨fw.yes,?_⟩;refine bu 9 rfl ?_;go_wp2_with fail;refine⟨fw.yes,?_⟩;refine bu 10 rfl ?_;go_wp2_with fail;refine⟨fw.yes,?_⟩;refine NoPanic.normal ?_;go_wp2_with fail;go_roundw
  case rel=>exact⟨k+1,g,ow,vo,HN,d9,d8⟩
  case measure=>simp[intOf];omega
 have cq:k=s.hs.n:=ow;have q4:(s.hs.n:Int)<=(k:Int):=ow;have HD:Hid (h.n=(eu s.hs (λx=>x.o==(o:Int))).n/\∀j,j<h.n->h.z j=(eu s.hs (λx=>x.o==(o:Int))).z j):=by
  have e:=H.o;rw[cq] at e;have e2:=ae7 s.hs (λx=>x.o==(o:Int));exact⟨e.1.trans e2.1.symm,λj _=>by rw[e.2,e2.2]⟩
 obtain⟨gO,g1,g2,g3,g4,g5,g6⟩:=HK.o.own.orderCells (o:=o) y;have E:x0.os.a=some ⟨gO,0,none⟩:=g1;have HG:Hid (x0.os.a=some ⟨gO,0,none⟩):=E;have u1:wr.cell? ⟨B7,1,none⟩=some (.slice x0.os.a x0.os.n x0.os.c):=HK.o.box.k 1;have u2:=HK.o.box.lt;rw[E] at u1;have gf:=g6 (o*2);have ol:x0.os.n<=x0.os.c:=HK.o.own.os.le;have oc:x0.os.c<=maxLen:=HK.o.own.os.cap;unfold maxLen at oc;have al:Hid ((x0.os.z o).ls.n<=(x0.os.z o).ls.c/\(x0.os.z o).ls.c<=maxLen):=by
  have h:=HK.o.own.at.os.ods o y;obtain⟨_,_,_,_,_,_,h⟩:=h;exact⟨h.le,h.cap⟩
 have ll:=al.o.1;have lc:=al.o.2;unfold maxLen at lc;have HN:Hid (de w1.heap.size B7 W0 (fp (di (withHolds x0 h) o 2) o 0) (wr.setCell ⟨gO,o*2,none⟩ (.int .i64 2))):=by
  show de _ _ _ (fp (di (withHolds x0 h) o 2) o 0) _;rw[Kt];obtain⟨gq,b1,b2,b3⟩:=HK.o.own.os.list Sn;have aq:x0.os.a=some ⟨gq,0,none⟩:=b1;rw[HG.o] at aq;simp only[co] at aq;subst aq;exact⟨HK.o.own.kind (o:=o) y b1 2,HK.o.box.other (a:=⟨gO,o*2,none⟩) (Blk.ne2 HK.o.box b3 dc) _,HK.o.bel.setCell (p:=⟨gO,o*2,none⟩) Sb _,akg⟩
 have r:Hid (∀j,((fp (di (withHolds x0 h) o 2) o j).os.z o)=⟨2,Ag (x0.os.z o).ls j⟩):=λj=>by
  rw[zt,xv]
  rfl
 have bw:Hid (∀j,j<(x0.os.z o).ls.n->(0<=((x0.os.z o).ls.z j).l/\((x0.os.z o).ls.z j).l<=200)/\0<=((x0.os.z o).ls.z j).b/\((x0.os.z o).ls.z j).b<=200):=λj hj=>by
  have e:=b8.o.os.2 o y;have hl:=fi (HR.o.fm.line o ho j aao);rw[e.2.2 j hj];omega
 clear g1 E g6 cq A f i m H D al;go_wp2_with fail;clear g4 g5 gf u1 u2 HK l1 d0 d1 l2 c0 c1 c2 c3 c4 c5 c6
 go_loopw [11] (λjv wk=>∃j:Nat,j<=(x0.os.z o).ls.n/\jv = .int .i64 j/\Hid (de w1.heap.size B7 W0 (fp (di (withHolds x0 h) o 2) o j) wk)) (λjv _=>(x0.os.z o).ls.n-(intOf jv).toNat)
 case atStart=>exact⟨0,Qxz _,rfl,HN⟩
 clear HN;obtain⟨j,hj,rfl,HK⟩:=hrel;have u1:wr.cell? ⟨B7,1,none⟩=some (.slice x0.os.a x0.os.n x0.os.c):=HK.o.box.k 1;have u2:=HK.o.box.lt;rw[HG.o] at u1;obtain⟨gq,g1,gt,gu,g4,g5,g6⟩:=HK.o.own.orderCells (o:=o) y;have E:x0.os.a=some ⟨gq,0,none⟩:=g1;rw[HG.o] at E;simp only[co] at E;subst E;rw[r.o j] at g5;have a0:wr.cell? ⟨gO,o*2+1,none⟩=some (.slice (x0.os.z o).ls.a (x0.os.z o).ls.n (x0.os.z o).ls.c):=g5;clear g1 g4 g5 g6;by_cases cp:j<(x0.os.z o).ls.n;rotate_left
 .have e9:j=(x0.os.z o).ls.n:=ow;have eb:Hid (af (fp (di (withHolds x0 h) o 2) o j) (ew s o)):=by rw[e9];exact X9 b8.o y HD.o.1 HD.o.2
  have q7:((x0.os.z o).ls.n:Int)<=(j:Int):=ow;have p0:wr.cell? ⟨B7,0,none⟩=some (.slice x0.on.a x0.on.n x0.on.c):=HK.o.box.k 0;have p2:wr.cell? ⟨B7,2,none⟩=some (.slice h.a h.n h.c):=HK.o.box.k 2;have p3:wr.cell? ⟨B7,3,none⟩=some (.slice x0.ms.a x0.ms.n x0.ms.c):=HK.o.box.k 3;have p4:wr.cell? ⟨B7,4,none⟩=some (.slice x0.si.a x0.si.n x0.si.c):=HK.o.box.k 4;have p5:wr.cell? ⟨B7,5,none⟩=some (.slice x0.so.a x0.so.n x0.so.c):=HK.o.box.k 5;have p6:wr.cell? ⟨B7,6,none⟩=some (.slice x0.sf.a x0.sf.n x0.sf.c):=HK.o.box.k 6;obtain⟨-,-,-,i,m⟩:=HC.o wr HK.o.bel;have HZ:=qa2 i m;obtain⟨zl,cv,cs,cw,zc1,cx,zc2,cy,zc3,cz,zc4,c7,zc5,c8,cu⟩:=z7 m;clear r bw HD i m;go_wp2_with fail;have KZ:=pc HZ.o.2 (.slice x0.on.a x0.on.n x0.on.c) (.slice (some ⟨gO,0,none⟩) x0.os.n x0.os.c) (.slice h.a h.n h.c) (.slice x0.ms.a x0.ms.n x0.ms.c) (.slice x0.si.a x0.si.n x0.si.c) (.slice x0.so.a x0.so.n x0.so.c) (.slice x0.sf.a x0.sf.n x0.sf.c);have cm:=lr (b:=w.heap.size+2) HZ.o.1 ow (.slice x0.on.a x0.on.n x0.on.c) (.slice (some ⟨gO,0,none⟩) x0.os.n x0.os.c) (.slice h.a h.n h.c) (.slice x0.ms.a x0.ms.n x0.ms.c) (.slice x0.si.a x0.si.n x0.si.c) (.slice x0.so.a x0.so.n x0.so.c) (.slice x0.sf.a x0.sf.n x0.sf.c);have a9:=ah.set7 HK.o.own HZ.o.2 (.slice x0.on.a x0.on.n x0.on.c) (.slice (some ⟨gO,0,none⟩) x0.os.n x0.os.c) (.slice h.a h.n h.c) (.slice x0.ms.a x0.ms.n x0.ms.c) (.slice x0.si.a x0.si.n x0.si.c) (.slice x0.so.a x0.so.n x0.so.c) (.slice x0.sf.a x0.sf.n x0.sf.c);unfold set7 at KZ cm a9;obtain⟨ei,ej,ek,el,em,en,eo⟩:=dp KZ;refine Xzq (v := .tuple #[.agg #[.slice x0.on.a x0.on.n x0.on.c,.slice (some ⟨gO,0,none⟩) x0.os.n x0.os.c,.slice h.a h.n h.c,.slice x0.ms.a x0.ms.n x0.ms.c,.slice x0.si.a x0.si.n x0.si.c,.slice x0.so.a x0.so.n x0.so.c,.slice x0.sf.a x0.sf.n x0.sf.c],.int .i64 0]) (by simp[results,results73,go_sem,ei,ej,ek,el,em,en,eo]) rfl ?_;refine⟨fp (di (withHolds x0 h) o 2) o j,?_,a9.at,⟨λ_=>eb.o,λh=>absurd HX.o h⟩,λ_=>a9.mono dd.o,cm⟩;rw[HX.o];show _=Ending.returned (.tuple #[.agg #[.slice x0.on.a x0.on.n x0.on.c,.slice x0.os.a x0.os.n x0.os.c,.slice h.a h.n h.c,.slice x0.ms.a x0.ms.n x0.ms.c,.slice x0.si.a x0.si.n x0.si.c,.slice x0.so.a x0.so.n x0.so.c,.slice x0.sf.a x0.sf.n x0.sf.c],.int .i64 0]);rw[HG.o]
 have q5:(0:Int)<=(j:Int):=ow;have q6:(j:Int)<((x0.os.z o).ls.n:Int):=ow;have fa:j<((fp (di (withHolds x0 h) o 2) o j).os.z o).ls.n:=by rw[r.o];exact cp
 obtain⟨gr,BL,f1,f2,f3,f4,f5,f6,f7,f8,f9,ep,cb,f12,av,cc⟩:=HK.o.own.lineCell (o:=o) (l:=j) y fa;rw[r.o] at f5 cb f12 av cc;have ax:(x0.os.z o).ls.a=some ⟨BL,0,none⟩:=f5;have bz:Hid (((fp (di (withHolds x0 h) o 2) o j).os.z o).ls.a=some ⟨BL,0,none⟩):=by show((fp (di (withHolds x0 h) o 2) o j).os.z o).ls.a=_;rw[r.o];exact ax
 have m:(Ag (x0.os.z o).ls j).z j=(x0.os.z o).ls.z j:=if_neg (Nat.lt_irrefl _);have au:wr.cell? ⟨BL,j*4+1,none⟩=some (.int .i64 ((x0.os.z o).ls.z j).l):=by rw[<-m];exact f12
 have aw:wr.cell? ⟨BL,j*4+2,none⟩=some (.int .i64 ((x0.os.z o).ls.z j).b):=by rw[<-m];exact av
 have ea:Hid (setLine (fp (di (withHolds x0 h) o 2) o j) o j 3 (((x0.os.z o).ls.z j).l-((x0.os.z o).ls.z j).b)=fp (di (withHolds x0 h) o 2) o (j+1)):=by
  have e:((di (withHolds x0 h) o 2).os.z o).ls.z j=(x0.os.z o).ls.z j:=by rw[xv];rfl
  have hh:=Ks (di (withHolds x0 h) o 2) o j;rw[e] at hh;exact hh
 have hb:=bw.o j cp;rw[ax] at a0;have t1:=Qqq u1;have t2:=Qqq a0;have t3:=Qqq au;have t4:=Qqq aw;clear f1 f2 f3 f4 f5 ax f6 f8 f9 ep cb f12 au av aw cc m
 generalize (x0.os.z o).ls.z j=Z at *
 go_wp2_with fail;clear u1 a0;refine jq [(true,[0,1,2,3,4,5,6,7,8,9,10,11,12,13,14,15,16,17,18,19,20,21,22,23,24,25,26,27,28,29],some 30)] ?_;refine⟨λw'=>∃p:Regrown,w'=grow (redrawn wr p.d) p.os,Qqx (brf.drew),λh=>ix,?_⟩;simp only[jg]
 repeat(go_big_quiet_step(fail))
 refine Qqz ?_;clear t1 t2 t3 t4;have t:Bw wr wr.drew:=brf.drew
 generalize wr.drew=T at *
 have a8:=HK.o.own.below t;have Kj:=HK.o.box.below t;have cf:=HK.o.bel.trans (t.mono HK.o.bel.size);have ci:=Qzx HK.o.le t.size;obtain⟨Bq,S,gw,-,-,K⟩:=a8.os.lines o y;rw[bz.o] at S;simp only[co] at S;subst S;have zl:=K.lt;have zf:=K.frozen (j*4+3);have zc:=K.cell (j:=j*4+3) ow;have a7:=a8.setLine (o:=o) y bz.o j 3 dc (Z.l-Z.b);have cg:=Kj.other (a:=⟨BL,j*4+3,none⟩) (Blk.ne2 Kj K dc) (.int .i64 (Z.l-Z.b));have ce:=cf.setCell (p:=⟨BL,j*4+3,none⟩) Cx (.int .i64 (Z.l-Z.b));rw[ea.o] at a7;have HN:Hid (de w1.heap.size B7 W0 (fp (di (withHolds x0 h) o 2) o (j+1)) (T.setCell ⟨BL,j*4+3,none⟩ (.int .i64 (Z.l-Z.b)))):=⟨a7,cg,ce,by simpa using ci⟩;clear a8 Kj cf ci K a7 cg ce t HK
 generalize (ba ((fp (di (withHolds x0 h) o 2) o j).os.z o).ls.n ((fp (di (withHolds x0 h) o 2) o j).os.z o).ls.z).getD (j*4+3) default=VV at zc
 refine ma 30 rfl ?_;exact amh
def wy(s:St)(h:Hs)(o l b g:Nat)(n k:Int):St:=setLine (setLine (setLine (setLine (withHolds (setOut (setOn s b g ((s.on.r b).z g-n)) g (s.so.z g+n)) h) o l 0 g) o l 1 ((s.os.z o).ls.z l).l) o l 2 (((s.os.z o).ls.z l).b+n)) o l 3 (((s.os.z o).ls.z l).n+k-n)
theorem af1(s:St)(h:Hs)(o l b g:Nat)(n k:Int)(i j:Nat):((wy s h o l b g n k).os.z i).ls.z j=if i=o/\j=l then ⟨g,((s.os.z o).ls.z l).l,((s.os.z o).ls.z l).b+n,((s.os.z o).ls.z l).n+k-n⟩ else(s.os.z i).ls.z j:=by
 unfold wy;rw[rf,rf,rf,rf];by_cases c:i=o/\j=l
 .rw[if_pos c,if_pos c,if_pos c,if_pos c,if_pos c]
  rfl
 rw[if_neg c,if_neg c,if_neg c,if_neg c,if_neg c]
 rfl
theorem Uh(s:St)(h:Hs)(o l b g:Nat)(n k:Int)(i:Nat):((wy s h o l b g n k).os.z i).k=(s.os.z i).k/\((wy s h o l b g n k).os.z i).ls.n=(s.os.z i).ls.n/\((wy s h o l b g n k).os.z i).ls.a=(s.os.z i).ls.a/\((wy s h o l b g n k).os.z i).ls.c=(s.os.z i).ls.c:=by
 unfold wy;rw[um,um,um,um,(dw i).1,(dw i).1,(dw i).1,(dw i).1,(dw i).2.1,(dw i).2.1,(dw i).2.1,(dw i).2.1,(dw i).2.2,(dw i).2.2,(dw i).2.2,(dw i).2.2];exact⟨rfl,rfl,rfl,rfl⟩
theorem af2(e:af x s){o:Nat}{n:Int}(a:qc p s o l b){h:Hs}(f:h.n=(nk s.hs o l b).n)(g:∀j,j<h.n->h.z j=(nk s.hs o l b).z j):af (wy x h o l b (cf s o l) n (ed s o l b)) (ch s o l b n):=by
 have w:=Ld (n:=n) e a f g;refine⟨w.on,⟨w.os.1,λi hi => ?_⟩,⟨f,g⟩,w.ms,w.si,w.so,w.sf⟩;have d:i<x.os.n:=hi;have k:=e.os.2 i d;have hs:i<s.os.n:=by rw[<-e.os.1];exact d
 rw[(Uh x h o l b (cf s o l) n (ed s o l b) i).1,(Uh x h o l b (cf s o l) n (ed s o l b) i).2.1,(tj s o l b n i).1,(tj s o l b n i).2];refine⟨k.1,k.2.1,λj m => ?_⟩;rw[af1,xw];by_cases c:i=o/\j=l
 .rw[if_pos c,if_pos c,e.line a.on a.ln,<-a.good.1]
  congr 1
  omega
 rw[if_neg c,if_neg c];exact k.2.2 j m
theorem ng.got{but:Int}{n:Int}(T:ng p but y i j n x){o:Nat}(b:o<y.os.n):lg x o=lg y o:=by
 have a:ey y i j n (Tk.go (avT y i j) n (fh p but)) x:=T;have k:=a.os.2 o (by rw[a.os.1];exact b);unfold lg;rw[k.2.1]
 congr 1
 refine sk λq c => ?_;rw[a.line b c]
 split<;>rfl
theorem Wg(p:Pl)(s:St)(order line bin n:Int)(w:World)(hp:p.At w)(hs:s.At w):
  Calls prog 74 #[p.val,s.val,.int .i64 order,.int .i64 line,.int .i64 bin,.int .i64 n] w λe w'=>∃x:St,e = .returned (.tuple #[x.val,.int .i64 (ji p s order line bin n)])/\x.At w'/\jb (ji p s order line bin n) (t9 p s order.toNat line.toNat bin.toNat n) x/\(ji p s order line bin n=0->ah w.heap.size w' x)/\Bw w w':=by
 obtain⟨W0,hW,i3,X0,Z0⟩:=Dh w p s;have HC:=Cq hp hs i3 X0 Z0;have HW:=hid hW;have leb:=hp.leb;have ee:=hp.capb;have les:=hp.les;have ef:=hp.caps;have capb:=ee;have caps:=ef;have ku:=Z0.lt;unfold maxLen at capb caps;have k9:=hs.os.le;have jl:=hs.os.cap;unfold maxLen at jl;clear hW X0 Z0 hp hs;unfold Pl.val St.val;go_enter func74,ntmps74;go_wp2_with fail;rw[HW.o];obtain⟨X,D,t,q,B⟩:=HC.o W0 brf;refine(nf p s W0 D t).mono ?_;rintro e w1 ⟨rfl,hB⟩;clear X D t q B HW;obtain⟨⟨⟨l1,d0,d1⟩,l2,c0,c1,c2,c3,c4,c5,c6⟩,D,t,q,B⟩:=HC.o w1 hB;by_cases h0:ag p s=0;rotate_left
 .have HX:Hid (ji p s order line bin n=ag p s):=Dx h0;have b8:Hid (¬ji p s order line bin n=0):=atp;have g0:(ag p s !=0)=true:=qh;clear h0;clear D t;obtain⟨L,Y,J,aa,zc1,ab,zc2,ac,zc3,ay,zc4,az,zc5,a0,ax⟩:=z7 B;go_wp2_with fail;exact mu results74 B q ow HX.o (λh=>b8.o (HX.o.trans h)) rfl rfl rfl
 have H0:Hid (ag p s=0):=h0;have HR:Hid (am p s):=et h0;rw[h0];clear h0;have e9:Hid (s.hs.At w1):=t.hs;clear D t q B;go_wp2_with fail;refine(Y7 s.hs order line bin w1 e9.o).mono ?_;rintro e u ⟨rfl,ft⟩;clear e9 l1 d0 d1 l2 c0 c1 c2 c3 c4 c5 c6;have aj:=hB.trans (ft.mono hB.size);obtain⟨⟨⟨l1,d0,d1⟩,l2,c0,c1,c2,c3,c4,c5,c6⟩,D,t,q,B⟩:=HC.o u aj;clear ft hB;by_cases h1:keptV s.hs.n s.hs.z order line bin=0
 .have HX:Hid (ji p s order line bin n=4):=Lc H0.o h1;have b8:Hid (¬ji p s order line bin n=0):=pr;have dk:(keptV s.hs.n s.hs.z order line bin==0)=true:=xp
  generalize keptV s.hs.n s.hs.z order line bin=KV at *
  clear h1;clear D t;obtain⟨L,Y,J,aa,zc1,ab,zc2,ac,zc3,ay,zc4,az,zc5,a0,ax⟩:=z7 B;go_wp2_with fail;exact mu results74 B q ow HX.o dc rfl rfl rfl
 have dk:(keptV s.hs.n s.hs.z order line bin==0)=false:=xp;cases h2:inB n 0 (keptV s.hs.n s.hs.z order line bin)
 .have HX:Hid (ji p s order line bin n=3):=Iz H0.o h1 h2;have b8:Hid (¬ji p s order line bin n=0):=pr;clear h1
  generalize keptV s.hs.n s.hs.z order line bin=KV at *
  exact ava
 obtain⟨o,l,b,rfl,rfl,rfl,hi⟩:=Rd HR.o h1;have HI:Hid (qc p s o l b):=hi;have gd:=HI.o.good;have bd:=HI.o.bd;have nn:=ar h2;have ho:=HI.o.on;have hl:=HI.o.ln;have hb:=HI.o.bn;obtain⟨g,hg⟩:∃g,cf s o l=g:=⟨_,rfl⟩;have HG:Hid (cf s o l=g):=hg;rw[hg] at gd;have gl:=gd.2;obtain⟨bo,oo,dq,i7,z0,z1,cj⟩:=t.os.ods o ho;obtain⟨bl,ol,ge,i6,y0,y1,y2,y3⟩:=cj.hds l hl;have ll:=cj.le;have lc:=cj.cap;unfold maxLen at lc;have son:=HR.o.fm.son;obtain⟨bs,os,ds,i8,jz⟩:=t.so.ints g ow;have la:=t.so.le;have jx:=t.so.cap;unfold maxLen at jx;have e8:Hid (s.so.a=some ⟨bs,os,none⟩):=ds;have ey:Hid (s.os.a=some ⟨bo,oo,none⟩):=dq;rw[gd.1] at y0;rw[dq] at c1;rw[ge] at z1;rw[ds] at c5;have q0:(0:Int)<=(o:Int):=ow;have q1:(o:Int)<(s.os.n:Int):=ow;have q2:(0:Int)<=(l:Int):=ow;have q3:(l:Int)<((s.os.z o).ls.n:Int):=ow;have q4:(0:Int)<=(g:Int):=ow;have sg:g<s.so.n:=ow;have q5:(g:Int)<(s.so.n:Int):=ow;have sob:=HR.o.fm.sob g gl;have H1:Hid (¬ed s o l b=0):=h1;have H2:Hid (inB n 0 (ed s o l b)=true):=h2;have it:1<=keptV s.hs.n s.hs.z o l b/\keptV s.hs.n s.hs.z o l b<=200:=⟨bd.1,bd.2.1⟩;clear dq ge cj ds y1 y2 y3 z0 gd bd hi hg h1 son;by_cases h3:1048576<s.so.z g+n
 .have HX:Hid (ji p s o l b n=2):=Lb H0.o H1.o H2.o asq;have b8:Hid (¬ji p s o l b n=0):=pr
  generalize keptV s.hs.n s.hs.z o l b=KV at *
  exact ava
 have HX:Hid (ji p s o l b n=0):=Zn H0.o H1.o H2.o aso;have b9:Hid (mi p s o l b n):=ame;have cw:Hid (w.heap.size<=u.heap.size):=q.size;have eu:Hid (Calls prog 105 #[s.val] u λe w'=>∃s':St,e = .returned s'.val/\af s' s/\ah u.heap.size w' s'/\Bw u w'):=su p s u t HR.o.fm;obtain⟨K,hK⟩:∃K,keptV s.hs.n s.hs.z o l b=K:=⟨_,rfl⟩;have HK:Hid (ed s o l b=K):=hK;rw[hK] at it h2 nn dk ⊢;clear D t q B hK;go_wp2_with(go_at_call 34;refine ap (da _ _ _ _) ?_);rw[<-ey.o,<-e8.o];refine Calls.mono eu.o ?_;rintro e w4 ⟨i,rfl,hsame,dr,ci⟩;clear eu l1 d0 d1 l2 c0 c1 c2 c3 c4 c5 c6 z1 i7 i6 i8 y0 jz h2 ey e8 dk;have V:o<i.os.n:=Nx;have xk:=hsame.os.2 o V;have j0:l<(i.os.z o).ls.n:=by rw[xk.2.1];exact hl
 have x0b:b<i.on.n:=ate;have gj:g<(i.on.r b).n:=asc;have x0s:g<i.so.n:=by rw[hsame.so.1];exact sg
 have E:Hid (af i s):=hsame;have fe:Hid ((0<=(i.on.r b).z g/\(i.on.r b).z g<=200)/\(0<=i.so.z g/\i.so.z g<=1048576)/\(0<=((i.os.z o).ls.z l).b/\((i.os.z o).ls.z l).b<=200)/\0<=((i.os.z o).ls.z l).n/\((i.os.z o).ls.z l).n<=200):=ave;have v0:=fe.o;obtain⟨W5,fy,bw,K5⟩:=ab7 w4 i;have fc:=hid fy;have bv:=ci.trans (bw.mono ci.size);have fu:=aj.trans (bv.mono aj.size);have A1:W0.heap.size<=u.heap.size:=aj.size;have A3:u.heap.size<=w4.heap.size:=ci.size;have be:Hid (de u.heap.size w4.heap.size W0 i W5):=⟨ah.below dr bw,K5,fu,by have:=bv.size;omega⟩;clear fy dr K5 ci bw bv fu hsame aj xk fe;simp only[St.val];go_wp2_with fail;rw[fc.o];clear fc
 generalize w4.heap.size=B7 at *
 -- what lies there
 obtain⟨g0,G,a1,a2,a3,a4,a5,a6,a7,a8,a9,im,k3,io⟩:=be.o.own.onCell x0b gj;have u0:W5.cell? ⟨B7,0,none⟩=some (.slice i.on.a i.on.n i.on.c):=be.o.box.k 0;have U:=be.o.box.lt;rw[a1] at u0;unfold maxLen at a8 io;have r0:(0:Int)<=(b:Int):=ow;have r1:(b:Int)<(i.on.n:Int):=ow;have r2:(g:Int)<((i.on.r b).n:Int):=ow;have cr:Hid ((i.on.r b).a=some ⟨G,0,none⟩):=a4;clear a1 a4 im;have jt:=Qqq u0;have jp:=Qqq a3;have jr:=Qqq a9;go_wp2_with fail;refine jq [(true,[0,1,2,3,4,5,6,7,8,9,10,11,12,13,14,15,16],some 17)] ?_;refine⟨λw'=>∃p:Regrown,w'=grow (redrawn W5 p.d) p.os,Qqx (brf.drew),λh=>ix,?_⟩;simp only[jg]
 repeat(go_big_quiet_step(fail))
 refine Qqz ?_;clear jt jp jr u0 a3 a9;have S:Bw W5 W5.drew:=brf.drew
 generalize W5.drew=wj at *
 have m:=be.o.below S;obtain⟨Gq,b1,b2,b3,b4,b5⟩:=m.own.rows b x0b;rw[cr.o] at b1;simp only[co] at b1;subst b1;have L:=b5.lt;have zf:=b5.frozen g;have zc:=b5.cell (j:=g) gj;have bf:Hid (de u.heap.size B7 W0 (setOn i b g ((i.on.r b).z g-n)) (wj.setCell ⟨G,g,none⟩ (.int .i64 ((i.on.r b).z g-n)))):=⟨m.own.setOn (b:=b) x0b cr.o g _,m.box.other (a:=⟨G,g,none⟩) (Blk.ne2 m.box b5 dc) _,m.bel.setCell (p:=⟨G,g,none⟩) Jp _,R8⟩;clear m b2 b3 b4 b5 S be cr a2 a5 a6 U;refine ma 17 rfl ?_;go_wp2_with fail;refine NoPanic.normal ?_;clear L zf zc
 generalize wj.setCell ⟨G,g,none⟩ (.int .i64 ((i.on.r b).z g-n))=W6 at *
 clear wj
 -- what went
 obtain⟨GS,e1,e2,e3,e4,e5,e6,e7⟩:=bf.o.own.so.cellAt (g:=g) x0s;have e1':i.so.a=some ⟨GS,0,none⟩:=e1;have u5:W6.cell? ⟨B7,5,none⟩=some (.slice i.so.a i.so.n i.so.c):=bf.o.box.k 5;have U:=bf.o.box.lt;rw[e1'] at u5;have k4:i.so.n<=i.so.c:=e4;have iu:i.so.c<=maxLen:=e5;have fp:W6.cell? ⟨GS,g,none⟩=some (.int .i64 (i.so.z g)):=e6;unfold maxLen at iu;have r3:(g:Int)<(i.so.n:Int):=ow;have cu:Hid (i.so.a=some ⟨GS,0,none⟩):=e1';clear e1 e1' e4 e5 e6 e7;have ju:=Qqq u5;have js:=Qqq fp;go_wp2_with fail;refine jq [(true,[0,1,2,3,4,5,6,7,8,9,10],some 11)] ?_;refine⟨λw'=>∃p:Regrown,w'=grow (redrawn W6 p.d) p.os,Qqx (brf.drew),λh=>ix,?_⟩;simp only[jg]
 repeat(go_big_quiet_step(fail))
 refine Qqz ?_;clear ju js u5 fp;have S:Bw W6 W6.drew:=brf.drew
 generalize W6.drew=wj at *
 have m:=bf.o.below S;obtain⟨Gq,b1,b2,b3,b4,b5⟩:=m.own.so;have c7:i.so.a=some ⟨Gq,0,none⟩:=b1;rw[cu.o] at c7;simp only[co] at c7;subst c7;have L:=b5.lt;have zf:=b5.frozen g;have zc:wj.cell? ⟨GS,g,none⟩=some (.int .i64 (i.so.z g)):=b5.cell (j:=g) x0s;have aq:Hid (de u.heap.size B7 W0 (setOut (setOn i b g ((i.on.r b).z g-n)) g (i.so.z g+n)) (wj.setCell ⟨GS,g,none⟩ (.int .i64 (i.so.z g+n)))):=⟨m.own.setOut cu.o g _,m.box.other (a:=⟨GS,g,none⟩) (Blk.ne2 m.box b5 dc) _,m.bel.setCell (p:=⟨GS,g,none⟩) alb _,R8⟩;clear m b1 b2 b3 b4 b5 S bf cu e2 e3 U;refine ma 11 rfl ?_;go_wp2_with fail;refine NoPanic.normal ?_;clear L zf;have wl:=aq.o.box.lt;have u2:(wj.setCell ⟨GS,g,none⟩ (.int .i64 (i.so.z g+n))).cell? ⟨B7,2,none⟩=some (.slice i.hs.a i.hs.n i.hs.c):=aq.o.box.k 2
 generalize wj.setCell ⟨GS,g,none⟩ (.int .i64 (i.so.z g+n))=W7 at *
 clear zc
 -- the hold
 go_wp2_with fail;clear u2 wl;have ex:Hid (Calls prog 108 #[.slice i.hs.a i.hs.n i.hs.c,.int .i64 (o:Int),.int .i64 (l:Int),.int .i64 (b:Int),.int .i64 0] W7 λe w'=>∃s':Hs,e = .returned s'.val/\ct W7.heap.size 107 w' s'/\(s'.n=(nk s.hs o l b).n/\∀j,j<s'.n->s'.z j=(nk s.hs o l b).z j)/\Bw W7 w'):=by
  have ck:aw i.hs.n (df i.hs.z)=false:=(E.o.formed HR.o.fm).hold;have jf:¬keptV i.hs.n i.hs.z o l b=0:=by
   rw[E.o.hs.1,A6 λj hj=>E.o.hs.2 j (by rw[E.o.hs.1];exact hj)];exact H1.o
  obtain⟨p1,p2,p3,p4,p5⟩:=uu ck jf;have fx:=cd ck _ p1;have hk:=H9 (n:=0) p2;have h:=Tp i.hs ⟨o,l,b,0⟩ (jy i.hs.n i.hs.z o l b) W7 aq.o.own.hs.at ck (ajd p2 fx) p1 hk rfl (λj hj=>by rw[<-hk];exact p4 j hj) (λj hj jd=>by rw[<-hk];exact p5 j hj jd);refine Calls.mono h λe w' => ?_;rintro⟨s',rfl,q1,q2,q3,q4⟩;have ei:jy i.hs.n i.hs.z o l b=jy s.hs.n s.hs.z o l b:=by
   obtain⟨s1,s2,-⟩:=uu HR.o.fm.hold H1.o;exact((qf ck (k:=jy s.hs.n s.hs.z o l b) (by rw[E.o.hs.1];exact s1) (by rw[E.o.hs.2 _ (by rw[E.o.hs.1];exact s1)];exact s2)).2)
  refine⟨s',rfl,q1,⟨by rw[q2,E.o.hs.1];rfl,λj hj => ?_⟩,q4⟩;rw[q3,ei];show gu i.hs.z _ j=gu s.hs.z _ j;have k7:j<i.hs.n-1:=by rw[<-q2];exact hj
  unfold gu
  split
  .exact E.o.hs.2 j ow
  exact E.o.hs.2 (j+1) ow
 refine Calls.mono ex.o ?_;rintro e w8 ⟨hd,rfl,gb,ga,au⟩;have ev:Hid (hd.n=(nk s.hs o l b).n/\∀j,j<hd.n->hd.z j=(nk s.hs o l b).z j):=ga;have m:=aq.o.below au;have L:=m.box.lt;have zf:=m.box.frozen 2;have zc:=m.box.k 2;have ai:Hid (de u.heap.size B7 W0 (withHolds (setOut (setOn i b g ((i.on.r b).z g-n)) g (i.so.z g+n)) hd) (w8.setCell ⟨B7,2,none⟩ (.slice hd.a hd.n hd.c))):=⟨(m.own.withHolds (gb.mono aq.o.le)).box m.box 2 _,(m.box.set 2 (.slice hd.a hd.n hd.c)).congr (λj hj=>by match j,hj with|0,_=>rfl|1,_=>rfl|2,_=>rfl|3,_=>rfl|4,_=>rfl|5,_=>rfl|6,_=>rfl),m.bel.setCell (p:=⟨B7,2,none⟩) G6 _,R8⟩;clear m gb ga au ex aq
 -- the line
 obtain⟨gO,BL,f1,f2,f3,f4,f5,f6,f7,f8,f9,dg,ce,f12,bg,cg⟩:=ai.o.own.lineCell (o:=o) (l:=l) V j0;have dd:i.os.a=some ⟨gO,0,none⟩:=f1;have ew:Hid (i.os.a=some ⟨gO,0,none⟩):=dd;have bc:Hid ((i.os.z o).ls.a=some ⟨BL,0,none⟩):=f5;have u1:(w8.setCell ⟨B7,2,none⟩ (.slice hd.a hd.n hd.c)).cell? ⟨B7,1,none⟩=some (.slice i.os.a i.os.n i.os.c):=ai.o.box.k 1;rw[dd] at u1;have fq:(w8.setCell ⟨B7,2,none⟩ (.slice hd.a hd.n hd.c)).cell? ⟨gO,o*2+1,none⟩=some (.slice (some ⟨BL,0,none⟩) (i.os.z o).ls.n (i.os.z o).ls.c):=f4;have k5:(i.os.z o).ls.n<=(i.os.z o).ls.c:=f8;have iy:(i.os.z o).ls.c<=maxLen:=f9;have gv:(w8.setCell ⟨B7,2,none⟩ (.slice hd.a hd.n hd.c)).cell? ⟨BL,l*4,none⟩=some (.int .i64 ((i.os.z o).ls.z l).o):=ce;have gw:(w8.setCell ⟨B7,2,none⟩ (.slice hd.a hd.n hd.c)).cell? ⟨BL,l*4+1,none⟩=some (.int .i64 ((i.os.z o).ls.z l).l):=f12;have gx:(w8.setCell ⟨B7,2,none⟩ (.slice hd.a hd.n hd.c)).cell? ⟨BL,l*4+2,none⟩=some (.int .i64 ((i.os.z o).ls.z l).b):=bg;have gy:(w8.setCell ⟨B7,2,none⟩ (.slice hd.a hd.n hd.c)).cell? ⟨BL,l*4+3,none⟩=some (.int .i64 ((i.os.z o).ls.z l).n):=cg;have k8:i.os.n<=i.os.c:=ai.o.own.os.le;have jk:i.os.c<=maxLen:=ai.o.own.os.cap;unfold maxLen at iy jk;have U:=ai.o.box.lt;have r4:(o:Int)<(i.os.n:Int):=ow;have r5:(l:Int)<((i.os.z o).ls.n:Int):=ow;clear f1 dd f2 f4 f5 f6 f8 f9 dg ce f12 bg cg;obtain⟨M,fz,al,K9⟩:∃W,(w8.setCell ⟨B7,2,none⟩ (.slice hd.a hd.n hd.c)).alloc (.cells #[.int .i64 ((i.os.z o).ls.z l).o,.int .i64 ((i.os.z o).ls.z l).l,.int .i64 ((i.os.z o).ls.z l).b,.int .i64 ((i.os.z o).ls.z l).n] 115)=W/\Below (w8.setCell ⟨B7,2,none⟩ (.slice hd.a hd.n hd.c)).heap.size (w8.setCell ⟨B7,2,none⟩ (.slice hd.a hd.n hd.c)) W/\Blk W (w8.setCell ⟨B7,2,none⟩ (.slice hd.a hd.n hd.c)).heap.size 115 4 (λj=>(#[.int .i64 ((i.os.z o).ls.z l).o,.int .i64 ((i.os.z o).ls.z l).l,.int .i64 ((i.os.z o).ls.z l).b,.int .i64 ((i.os.z o).ls.z l).n]:Array Value).getD j default):=⟨_,rfl,brf.alloc nlr _,Blk.mk' rfl rfl⟩;have fd:Hid ((w8.setCell ⟨B7,2,none⟩ (.slice hd.a hd.n hd.c)).alloc (.cells #[.int .i64 ((i.os.z o).ls.z l).o,.int .i64 ((i.os.z o).ls.z l).l,.int .i64 ((i.os.z o).ls.z l).b,.int .i64 ((i.os.z o).ls.z l).n] 115)=M):=fz;have b7:Hid (de u.heap.size B7 W0 (withHolds (setOut (setOn i b g ((i.on.r b).z g-n)) g (i.so.z g+n)) hd) M):=ai.o.below al;have d6:M.cell? ⟨B7,1,none⟩=some (.slice i.os.a i.os.n i.os.c):=b7.o.box.k 1;have hy:=b7.o.box.lt;rw[ew.o] at d6;have iv:gO<M.heap.size:=Xzx f3 al.size;have iw:BL<M.heap.size:=Xzx f7 al.size;have fr:M.cell? ⟨gO,o*2+1,none⟩=some (.slice (some ⟨BL,0,none⟩) (i.os.z o).ls.n (i.os.z o).ls.c):=(al.cell (p:=⟨gO,o*2+1,none⟩) f3).trans fq;have du:M.cell? ⟨(w8.setCell ⟨B7,2,none⟩ (.slice hd.a hd.n hd.c)).heap.size,1,none⟩=some (.int .i64 ((i.os.z o).ls.z l).l):=K9.k 1;have dv:M.cell? ⟨(w8.setCell ⟨B7,2,none⟩ (.slice hd.a hd.n hd.c)).heap.size,2,none⟩=some (.int .i64 ((i.os.z o).ls.z l).b):=K9.k 2;have dx:M.cell? ⟨(w8.setCell ⟨B7,2,none⟩ (.slice hd.a hd.n hd.c)).heap.size,3,none⟩=some (.int .i64 ((i.os.z o).ls.z l).n):=K9.k 3;have gf:=K9.lt;clear fz al K9;simp only[Hs.val];go_wp2_with fail;rw[fd.o];clear u1 fq gv gw gx gy f3 f7 U L zf zc fd ai;have dt:(w8.setCell ⟨B7,2,none⟩ (.slice hd.a hd.n hd.c)).heap.size=w8.heap.size:=vq;rw[dt] at du dv dx gf
 try rw[dt]
 clear dt;have hw:=Qqq d6;have hr:=Qqq fr;have ht:=Qqq du;have hu:=Qqq dv;have hv:=Qqq dx;go_wp2_with fail;refine jq [(true,[0,1,2,3,4,5,6,7,8,9,10,11,12,13,14,15,16,17,18,19,20,21],some 22)] ?_;refine⟨λw'=>∃p:Regrown,w'=grow (redrawn M p.d) p.os,Qqx (brf.drew),λh=>ix,?_⟩;simp only[jg]
 repeat(go_big_quiet_step(fail))
 refine Qqz ?_;clear hw hr ht hu hv d6 fr du dv dx gf;have S:Bw M M.drew:=brf.drew
 generalize M.drew=wj at *
 have m:=b7.o.below S;obtain⟨Bq,dm,i1,-,-,F⟩:=m.own.os.lines o V;have bx:(i.os.z o).ls.a=some ⟨Bq,0,none⟩:=dm;rw[bc.o] at bx;simp only[co] at bx;subst bx;have L:=F.lt;have Y:=F.frozen (l*4);have aa:=F.frozen (l*4+1);have ab:=F.frozen (l*4+2);have ac:=F.frozen (l*4+3);have jj:l*4+3<(i.os.z o).ls.n*4:=ow;have J:=F.cell (j:=l*4) (by show l*4<(i.os.z o).ls.n*4;omega);have zc1:=F.cell (j:=l*4+1) (by show l*4+1<(i.os.z o).ls.n*4;omega);have zc2:=F.cell (j:=l*4+2) (by show l*4+2<(i.os.z o).ls.n*4;omega);have zc3:=F.cell (j:=l*4+3) jj;have s1:=m.own.setLine (o:=o) V bc.o l 0 dc (g:Int);have s2:=s1.setLine (o:=o) V (by rw[(dw o).2.1];exact bc.o) l 1 dc ((i.os.z o).ls.z l).l;have s3:=s2.setLine (o:=o) V (by rw[(dw o).2.1,(dw o).2.1];exact bc.o) l 2 dc (((i.os.z o).ls.z l).b+n);have s4:=s3.setLine (o:=o) V (by rw[(dw o).2.1,(dw o).2.1,(dw o).2.1];exact bc.o) l 3 dc (((i.os.z o).ls.z l).n+K-n);have cc:B7≠BL:=Blk.ne2 m.box F dc;have H:Hid (de u.heap.size B7 W0 (wy i hd o l b g n K) ((((wj.setCell ⟨BL,l*4,none⟩ (.int .i64 (g:Int))).setCell ⟨BL,l*4+1,none⟩ (.int .i64 ((i.os.z o).ls.z l).l)).setCell ⟨BL,l*4+2,none⟩ (.int .i64 (((i.os.z o).ls.z l).b+n))).setCell ⟨BL,l*4+3,none⟩ (.int .i64 (((i.os.z o).ls.z l).n+K-n)))):=⟨s4,(((m.box.other (a:=⟨BL,l*4,none⟩) cc _).other (a:=⟨BL,l*4+1,none⟩) cc _).other (a:=⟨BL,l*4+2,none⟩) cc _).other (a:=⟨BL,l*4+3,none⟩) cc _,(((m.bel.setCell (p:=⟨BL,l*4,none⟩) Cx _).setCell (p:=⟨BL,l*4+1,none⟩) Cx _).setCell (p:=⟨BL,l*4+2,none⟩) Cx _).setCell (p:=⟨BL,l*4+3,none⟩) Cx _,R8⟩
 generalize (ba _ _).getD (l*4) default=kz at J
 generalize (ba _ _).getD (l*4+1) default=k0 at zc1
 generalize (ba _ _).getD (l*4+2) default=k1 at zc2
 generalize (ba _ _).getD (l*4+3) default=k2 at zc3
 have cb:Hid (af (wy i hd o l b g n K) (ch s o l b n)):=by have h:=af2 (n:=n) E.o HI.o ev.o.1 ev.o.2;rw[HG.o,HK.o] at h;exact h
 have ky:Hid ((wy i hd o l b g n K).os.a=some ⟨gO,0,none⟩):=ew.o;have fb:Hid (i9 p (wy i hd o l b g n K) o l (K-n)):=by have h:=i9.same b9.o.takeIn cb.o;rw[HK.o] at h;exact h
 have gm:o<(wy i hd o l b g n K).os.n:=V;have gk:((wy i hd o l b g n K).os.z o).ls.n=(i.os.z o).ls.n:=(Uh i hd o l b g n K o).2.1;have ie:Hid (((wy i hd o l b g n K).os.z o).ls.n=(i.os.z o).ls.n):=gk;obtain⟨⟨⟨l1,d0,d1⟩,l2,c0,c1,c2,c3,c4,c5,c6⟩,D,t,q,B⟩:=HC.o _ H.o.bel;obtain⟨m1,p0,p1,p2,p3,p4,p5,p6⟩:=Boxed.of H.o.box;have ez:Hid (p.At ((((wj.setCell ⟨BL,l*4,none⟩ (.int .i64 (g:Int))).setCell ⟨BL,l*4+1,none⟩ (.int .i64 ((i.os.z o).ls.z l).l)).setCell ⟨BL,l*4+2,none⟩ (.int .i64 (((i.os.z o).ls.z l).b+n))).setCell ⟨BL,l*4+3,none⟩ (.int .i64 (((i.os.z o).ls.z l).n+K-n)))):=D;clear m dm i1 F s1 s2 s3 s4 S b7 iv iw hy l2 c0 c1 c2 c3 c4 c5 c6 D t q B gk;refine ma 22 rfl ?_;go_wp2_with fail;refine NoPanic.normal ?_;clear L Y aa ab ac J zc1 zc2 zc3
 generalize ((((wj.setCell ⟨BL,l*4,none⟩ (.int .i64 (g:Int))).setCell ⟨BL,l*4+1,none⟩ (.int .i64 ((i.os.z o).ls.z l).l)).setCell ⟨BL,l*4+2,none⟩ (.int .i64 (((i.os.z o).ls.z l).b+n))).setCell ⟨BL,l*4+3,none⟩ (.int .i64 (((i.os.z o).ls.z l).n+K-n)))=ik at *
 generalize wy i hd o l b g n K=y at *
 go_wp2_with fail;clear l1 d0 d1 m1 p0 p1 p2 p3 p4 p5 p6;refine(Qf p y o l u.heap.size (K-n) b ik ez.o H.o.own H.o.le fb.o).mono ?_;rintro e bm ⟨x,rfl,T,fw,au,fv⟩;have HT:Hid (ng p b y o l (K-n) x):=T;have cs:Hid (Blk bm B7 36 7 (λj=>y.cells.getD j default)):=fv _ _ _ _ dc H.o.box;have ib:Hid (ah u.heap.size bm x):=fw;have h9:Hid (Bw W0 bm):=H.o.bel.trans (au.mono A1);have HE8:Hid (u.heap.size<=bm.heap.size):=Qzx H.o.le au.size;have bp:o<x.os.n:=by rw[T.os.1];exact gm
 have kw:Hid ((x.os.z o).ls.n=(i.os.z o).ls.n):=(T.os.2 o bp).2.1.trans ie.o;have f0:=cs.o;obtain⟨L,Y,J,aa,zc1,ab,zc2,ac,zc3,ay,zc4,az,zc5,a0,ax⟩:=z7 f0;clear T fw au fv ez f0
 generalize (Tk.go (avT y o l) (K-n) (fh p b)).left=LL at *
 have HN:Hid (de u.heap.size B7 W0 x (set7 bm B7 (.slice x.on.a x.on.n x.on.c) (.slice x.os.a x.os.n x.os.c) (.slice x.hs.a x.hs.n x.hs.c) (.slice x.ms.a x.ms.n x.ms.c) (.slice x.si.a x.si.n x.si.c) (.slice x.so.a x.so.n x.so.c) (.slice x.sf.a x.sf.n x.sf.c))):=by
  have K:=s7b cs.o x;have hb:=s7w (b:=B7) h9.o (Qzx A1 A3) x;exact⟨s7o ib.o cs.o x,K.congr (λj hj=>by match j,hj with|0,_=>rfl|1,_=>rfl|2,_=>rfl|3,_=>rfl|4,_=>rfl|5,_=>rfl|6,_=>rfl),hb,ag0⟩
 simp only[St.val];go_wp2_with fail;clear L Y aa ab ac ay az a0 J zc1 zc2 zc3 zc4 zc5 ax;unfold set7 at HN
 go_loopw [19,20] (λav kv wk=>∃k:Nat,k<=(x.os.z o).ls.n/\kv = .int .i64 k/\av = .bool (!aw k (λj=>kx ((x.os.z o).ls.z j)))/\Hid (de u.heap.size B7 W0 x wk)) (λ_ kv _=>(x.os.z o).ls.n-(intOf kv).toNat)
 case atStart=>exact⟨0,Qxz _,rfl,rfl,HN⟩
 clear HN;obtain⟨k,hk,rfl,rfl,HKx⟩:=hrel;obtain⟨gX,g1,g2,g3,g4,g5,g6⟩:=HKx.o.own.orderCells (o:=o) bp;have u1:wr.cell? ⟨B7,1,none⟩=some (.slice x.os.a x.os.n x.os.c):=HKx.o.box.k 1;have U:=HKx.o.box.lt;rw[g1] at u1;have b6:Hid (x.os.a=some ⟨gX,0,none⟩):=g1;have ld:x.os.n<=x.os.c:=HKx.o.own.os.le;have j3:x.os.c<=maxLen:=HKx.o.own.os.cap;obtain⟨_,_,_,_,_,_,dn⟩:=HKx.o.own.at.os.ods o bp;have lb:=dn.le;have j2:=dn.cap;unfold maxLen at j3 j2;have r6:(o:Int)<(x.os.n:Int):=ow;clear g1 dn;by_cases jh:k<(x.os.z o).ls.n
 .have q6:(0:Int)<=(k:Int):=ow;have q7:(k:Int)<((x.os.z o).ls.n:Int):=ow;obtain⟨gr,BX,f1,f2,f3,f4,f5,f6,f7,f8,f9,dg,ce,f12,bg,cg⟩:=HKx.o.own.lineCell (o:=o) (l:=k) bp jh;rw[f5] at g5;have fa:Hid (aw (k+1) (λj=>kx ((x.os.z o).ls.z j))=(aw k (λj=>kx ((x.os.z o).ls.z j))||kx ((x.os.z o).ls.z k))):=Hq _ _;have ia:Hid (kx ((x.os.z o).ls.z k) = !(((x.os.z o).ls.z k).b==((x.os.z o).ls.z k).l)):=rfl
  generalize (x.os.z o).ls.z k=Z at *
  have gh:=Qqq u1;have gg:=Qqq g5;have d5:=Qqq bg;have d4:=Qqq f12;clear f1 f2 f3 f4 f5 f6 f8 f9 dg ce f12 bg cg g4 g6;cases ha:aw k (λj=>kx ((x.os.z o).ls.z j))
  .cases i5:(Z.b==Z.l)
   .exact auf
   exact auf
  simp only[Bool.not_true];go_wp2_with fail;clear u1 g5 g3 f7 U;refine Qxq ko ko ?_
  repeat(go_big_quiet_step(fail))
  refine Qqz ?_;intro wq bk;have bi:=ae bk;have HKx:Hid (de u.heap.size B7 W0 x wq):=HKx.o.below bi;clear bk bi gh gg d5 d4;go_wp2_with fail;go_roundw
  case rel=>exact⟨k+1,ow,vo,by rw[fa.o,ha];rfl,HKx⟩
  case measure=>simp[intOf];omega
 have je:k=(x.os.z o).ls.n:=ow;have cv:Hid ((!aw k (λj=>kx ((x.os.z o).ls.z j)))=lg (ch s o l b n) o):=by
  rw[je];show lg x o=_;rw[HT.o.got gm,Iv cb.o ho]
 obtain⟨AV,fs⟩:∃A,(!aw k (λj=>kx ((x.os.z o).ls.z j)))=A:=⟨_,rfl⟩;rw[fs] at cv ⊢;have q7:((x.os.z o).ls.n:Int)<=(k:Int):=ow;clear fs;have cx:=HT.o;rw[<-HK.o] at cx;have bq:Hid (lg (ch s o l b n) o=false->af x (t9 p s o l b n)):=λjc=>by
  unfold t9;rw[jc,if_neg dc];exact ng.same b9.o.takeIn cb.o (Ap (but:=(b:Int)) b9.o.takeIn) cx
 have br:Hid (lg (ch s o l b n) o=true->af (di x o 2) (t9 p s o l b n)):=λgc=>by
  have e0:=b9.o.all0 gc;unfold t9;rw[gc,if_pos rfl];have T0:=HT.o;have I0:=fb.o;rw[<-HK.o,e0] at T0 I0;exact Ko ((ng.zero I0 T0).trans cb.o) o 2
 clear cx;cases AV
 .have ca:Hid (af x (t9 p s o l b n)):=bq.o cv.o.symm;have Q:=HKx;obtain⟨m1,p0,p1,p2,p3,p4,p5,p6⟩:=Boxed.of Q.o.box;rw[b6.o] at p1;obtain⟨-,-,-,q,B⟩:=HC.o wr Q.o.bel;have HZ:Hid (Bw w wr/\Blk wr (w.heap.size+2) 36 7 (λ_ => .slice .none 0 0)):=⟨q,B⟩;obtain⟨L,Y,J,aa,zc1,ab,zc2,ac,zc3,ay,zc4,az,zc5,a0,ax⟩:=z7 B;have he:=(HC.o _ brf).2.2.2.1.size;clear q B g4 g6 bq br;go_wp2_with fail;rw[<-b6.o];have KZ:=s7b HZ.o.2 x;have bj:=s7w (b:=w.heap.size+2) HZ.o.1 ow x;have ak:=s7o Q.o.own HZ.o.2 x;unfold set7 at KZ bj ak;obtain⟨ff,fg,fj,fk,fl,fn,fo⟩:=dp KZ;refine Xzq (v := .tuple #[x.val,.int .i64 0]) ase rfl ?_;exact⟨x,ja,ak.at,⟨λ_=>ca.o,λh=>absurd HX.o h⟩,λ_=>ak.mono cw.o,bj⟩
 have ca:Hid (af (di x o 2) (t9 p s o l b n)):=br.o cv.o.symm;have k6:=g6 (o*2);obtain⟨gq,b1,b2,b3⟩:=HKx.o.own.os.list ow;rw[b6.o] at b1;simp only[co] at b1;subst b1;have gt:gX≠B7:=Blk.ne2 b3 HKx.o.box dc;have Q:Hid (de u.heap.size B7 W0 (di x o 2) (wr.setCell ⟨gX,o*2,none⟩ (.int .i64 2))):=⟨HKx.o.own.kind (o:=o) bp b6.o 2,HKx.o.box.other (a:=⟨gX,o*2,none⟩) gt.symm _,HKx.o.bel.setCell (p:=⟨gX,o*2,none⟩) (by show W0.heap.size<=gX;omega) _,ake⟩
 generalize di x o 2=z at Q ca
 obtain⟨m1,p0,p1,p2,p3,p4,p5,p6⟩:=Boxed.of Q.o.box;obtain⟨-,-,-,q,B⟩:=HC.o _ Q.o.bel;have HZ:Hid (Bw w (wr.setCell ⟨gX,o*2,none⟩ (.int .i64 2))/\Blk (wr.setCell ⟨gX,o*2,none⟩ (.int .i64 2)) (w.heap.size+2) 36 7 (λ_ => .slice .none 0 0)):=⟨q,B⟩;obtain⟨L,Y,J,aa,zc1,ab,zc2,ac,zc3,ay,zc4,az,zc5,a0,ax⟩:=z7 B;have he:=(HC.o _ brf).2.2.2.1.size;clear q B b2 b3 g6 bq br HKx
 generalize (x.os.z o).k=KK at *
 go_wp2_with fail;have KZ:=s7b HZ.o.2 z;have bj:=s7w (b:=w.heap.size+2) HZ.o.1 ow z;have ak:=s7o Q.o.own HZ.o.2 z;unfold set7 at KZ bj ak;obtain⟨ff,fg,fj,fk,fl,fn,fo⟩:=dp KZ;refine Xzq (v := .tuple #[z.val,.int .i64 0]) ase rfl ?_;exact⟨z,ja,ak.at,⟨λ_=>ca.o,λh=>absurd HX.o h⟩,λ_=>ak.mono cw.o,bj⟩
def km(A B:World):Prop:=A.heap.size<=B.heap.size/\∀(g:Nat) (cur:Array Value) (e:TypeId) (z:Nat × Nat),A.heap[g]?=some (.cells cur e z)->B.heap[g]?=A.heap[g]?
theorem km.of{A B:World}{row:Option Nat}(a:A.grownBy B row)(c:∀r,row=some r->∃o:Obj,A.heap[r]?=some o/\o.isCells=false):km A B :=
 ⟨a.size,λg cur e z h=>a.block g (Qkq h).1 (λk=>by
  obtain⟨o,b,hc⟩:=c g k.symm;rw[h] at b;cases b;cases hc)⟩
theorem Blk.ck{A B:World}(h:Blk A g e n f)(k:km A B):Blk B g e n f:=by
 obtain⟨cur,hc,a⟩:=h;exact Blk.same ⟨cur,hc,a⟩ (k.2 g cur e (0,0) hc)
theorem ki.ck{A B:World}{r:Rw}(h:ki M A r)(k:km A B):ki M B r:=by
 obtain⟨g,d,a,b,c,e⟩:=h;exact⟨g,d,a,b,c,e.ck k⟩
theorem gp.ck{A B:World}{size:Nat}{a:Option Addr}(h:gp M A e size a c)(k:km A B):gp M B e size a c :=
 h.same λg cur b=>k.2 g cur e (0,0) b
theorem kj.ck{A B:World}{s:Os}(h:kj M A s)(k:km A B):kj M B s:=by
 refine⟨h.le,h.cap,λf => ?_,λi hi => ?_,h.apart,h.room.ck k⟩
 .obtain⟨g,a,b,c⟩:=h.list f;exact⟨g,a,b,c.ck k⟩
 obtain⟨C,a,b,c,d,e⟩:=h.lines i hi;exact⟨C,a,b,c,d,e.ck k⟩
theorem ct.ck{A B:World}{s:Hs}(h:ct M e A s)(k:km A B):ct M e B s:=by
 obtain⟨a,b,c,d⟩:=h;refine⟨a,b,c,λj => ?_⟩;obtain⟨g,f,hA,i⟩:=d j;exact⟨g,f,hA,i.ck k⟩
theorem ah.ck{A B:World}(h:ah M A s)(k:km A B):ah M B s:=by
 refine⟨?_,λi hi=>(h.rows i hi).ck k,h.rapart,h.os.ck k,h.hs.ck k,h.ms.ck k,h.msr.ck k,h.si.ck k,h.so.ck k,h.sf.ck k,h.aio,h.aif,h.aof,h.ari⟩;obtain⟨g,d,a,b,c,e⟩:=h.on;exact⟨g,d,a,b,c,e.ck k⟩
theorem ah.low{e:Nat}{A:World}(h:ah M A s)(c:e<=M):ah e A s:=by
 refine⟨?_,λi hi => ?_,h.rapart,h.os.mono c,h.hs.mono c,h.ms.mono c,h.msr.mono c,?_,?_,?_,h.aio,h.aif,h.aof,h.ari⟩
 .obtain⟨g,d,a,b⟩:=h.on;exact N7
 .obtain⟨g,d,a,b⟩:=h.rows i hi;exact N7
 .obtain⟨g,d,a,b⟩:=h.si;exact N7
 .obtain⟨g,d,a,b⟩:=h.so;exact N7
 obtain⟨g,d,a,b⟩:=h.sf;exact N7
theorem km.below{A B:World}(h:Bw A B):km A B:=⟨h.size,λg cur e z a=>h.block g (Qkq a).1⟩
theorem Jz{F:Fence}{T:Nat}{P:Program}(w:World){v:Array Oper}{rest:List Oper}{o:Oper}{a:Act}
  (X:o.guard=none) (s x:Operand) (t:TypeId) (f:o.op=Op.call { callee:=Callee.builtin Builtin.append,args:=#[s,x],argTypes:=#[t,t] })
  (e:TypeId) (i:TypeInfo) (z:Value) (size bytes:Nat) (y:P.underlying t=some (.slice e)) (B:P.info? e=some i) (D:i.zero=some z) (E:i.size=size) (G:i.bytes=bytes) (H:z.cells.size=size) (J:0<size)
  (p:Option Addr) (n cap:Nat) (d:List Value) (hs:a.eval s = .slice p n cap) (r:p=none->n=0/\cap=0) (hlo:d.length=n*size) (holds:∀b,p=some b->∀j u,d[j]?=some u->w.cell? (b.add j)=some u)
  (l:Addr) (m c:Nat) (news:List Value) (hx:a.eval x = .slice (some l) m c) (S:news.length=m*size) (hc:∀j u,news[j]?=some u->w.cell? (l.add j)=some u) (A:∀u∈news,u.oneCell'=true)
  (q:cap<n+m) (b1:n+m<=maxLen) (b2:(n+m)*bytes<=140737488355328)
  (W:∀k w',w'.ownsRow w.heap.size e size k (n+m) (d++news)->w.grownBy w' none->wpListIn F T P v Q rest (a.put o.dst k) w') :
  wpListIn F T P v Q (o :: rest) a w:=by
 refine wpListIn_plain X λK L => ?_;cases p with
 | some b =>
  obtain⟨k,w',g,U,V⟩:=run_append_arg_grows (P:=P) w t o.type e i z size bytes y B D E G H J b n cap d hlo (holds b rfl) l m c news S hc q b1 b2;exact au3
 | none =>
  obtain⟨rfl,rfl⟩:=r rfl;obtain rfl:d=[]:=List.eq_nil_of_length_eq_zero aa7;obtain⟨k,w',g,U,V,_⟩:=run_append_own (P:=P) w w.heap.size t o.type e i z size bytes y B D E G H J (.slice none 0 0) 0 [] (World.ownsRow_nil w _ e size) l m c news S hc A b1 b2 nlr;exact au3
theorem Mb{F:Fence}{P:Program}(w:World){r:Array Oper}{rest:List Oper}{o:Oper}{a:Act}
  (T:o.guard=none) (s x:Operand) (t:TypeId) (q:o.op=Op.call { callee:=Callee.builtin Builtin.append,args:=#[s,x],argTypes:=#[t,t] })
  (A:Nat) (e:TypeId) (i:TypeInfo) (z:Value) (size bytes:Nat) (G:P.underlying t=some (.slice e)) (H:P.info? e=some i) (J:i.zero=some z) (K:i.size=size) (L:i.bytes=bytes) (M:z.cells.size=size) (S:0<size)
  (f:Option Addr) (n c:Nat) (xs:List Value) (hs:a.eval s = .slice f n c) (l:gp A w e size f c) (U:n<=c) (B:c<=maxLen) (hlo:xs.length=n*size) (y:0<n->∃g,f=some ⟨g,0,none⟩/\A<=g/\Blk w g e (n*size) (λj=>xs.getD j default))
  (d:Addr) (m v:Nat) (news:List Value) (hx:a.eval x = .slice (some d) m v) (V:news.length=m*size) (hc:∀j u,news[j]?=some u->w.cell? (d.add j)=some u) (p:∀u∈news,u.oneCell'=true)
  (hm:0<m) (b1:n+m<=maxLen) (b2:(n+m)*bytes<=140737488355328) (hA:A<=w.heap.size)
  (hK:∀v' w',w'.ownsRow A e size v' (n+m) (xs++news)->tm A e w w'->wpListIn F R P r Q rest (a.put o.dst v') w') :
  wpListIn F R P r Q (o :: rest) a w:=by
 rcases l with h0|⟨g,cur,ha,hA',hgc,X⟩
 .subst h0;have W:n=0:=ow;subst W;obtain rfl:xs=[]:=List.eq_nil_of_length_eq_zero aa7;refine Jz w T s x t q e i z size bytes G H J K L M S f 0 0 [] hs (λ_=>⟨rfl,rfl⟩) vq (λb _ j u hj=>Sz) d m v news hx V hc p ow b1 b2 λv' w' r1 r2 => ?_;exact ao7
 subst ha;have D:=Ug (w:=w) (e:=e) hA' hgc X U B hlo (λh=>by
  obtain⟨g',E,_,hb⟩:=y h;simp only[co] at E;subst E;exact hb)
 refine wpListIn_append_own w T s x t q A e i z size bytes G H J K L M S _ n xs hs D d m v news hx V hc p b1 b2 hA λv' w' r1 r2 _ => ?_;exact ams
theorem tm.keeps(h:tm A e w w'):KeepsOthers w w':=by
 obtain⟨row,b,f⟩:=h;refine⟨b.size,λk o a d => ?_⟩;refine(b.block k (Qkq a).1 λc => ?_).trans a;obtain⟨_,cur,hc⟩:=f k c.symm;rw[a] at hc;cases hc;cases d
theorem ah.addM{m:Hd}(h:ah A w s)(e:d.ownsRow A 110 4 v (s.ms.n+1) (ba s.ms.n s.ms.z++dt m))(l:tm A 110 w d):
  ∃k:Hs,v = .slice k.a k.n k.c/\ah A d (withMoves s k)/\k.n=s.ms.n+1/\(∀j,j<s.ms.n->k.z j=s.ms.z j)/\k.z s.ms.n=m:=by
 have g:ba s.ms.n s.ms.z++dt m=ba (s.ms.n+1) (λi=>if i=s.ms.n then m else s.ms.z i):=by
  rw[vj,if_pos rfl,pn (z':=λi=>if i=s.ms.n then m else s.ms.z i) λi hi=>aan]
 have b:=e;rw[g] at b;obtain⟨k,rfl,ok,kn,f⟩:=ct.ofRow b nlr;refine⟨k,rfl,h.moreM l ok ?_,kn,λj o=>by rw[f];exact if_neg ow,by rw[f];exact if_pos rfl⟩;exact gp.ofOwns (a:=k.a) (n:=k.n) (c:=k.c) e nlr
theorem ki.keepM{r:Rw}(h:ki A w r)(hg:Blk w g 110 n f)(K:iy g w w'):ki A w' r:=an3
theorem ct.keepM{s:Hs}(h:ct A t w s)(hg:Blk w g 110 n f)(hne:t≠110)(K:iy g w w'):ct A t w' s:=amn
theorem kj.keepM{s:Os}(h:kj A w s)(hg:Blk w g 110 n f)(K:iy g w w'):kj A w' s:=by
 refine⟨h.le,h.cap,λhn => ?_,λi hi => ?_,h.apart,?_⟩
 .exact aod
 .exact anl
 refine h.room.same λq cur a=>K.2 q (Qkq a).1 λe => ?_;obtain⟨c2,b,_⟩:=hg;rw[e,b] at a;cases a
theorem ah.keepM{h:Hs}(k:ah A w s)(hg:Blk w g 110 n f)(K:iy g w w')(b:ct A 110 w' h)(d:gp A w' 110 4 h.a h.c):ah A w' (Go.Proofs.YtjgckphgagdpaaaGreatDoor.withMoves s h):=by
 refine⟨?_,λi hi=>(k.rows i hi).keepM hg K,k.rapart,k.os.keepM hg K,k.hs.keepM hg dc K,b,d,k.si.keepM hg K,k.so.keepM hg K,k.sf.keepM hg K,k.aio,k.aif,k.aof,k.ari⟩;exact ant
theorem Pq(w:World)(a:TypeId)(b o n c:Nat)(d:0<n)(hc:∀j,j<n*4->(w.cell? ⟨b,o+j,none⟩).isSome=true)(hf:∀j,j<n*4->w.frozen? ⟨b,o+j,none⟩=false):
  (Builtin.clear_ #[34] a #[.slice (some ⟨b,o,none⟩) n c]).run prog w = .ok (.tuple #[]) (w.setCells b o (List.replicate (n*4) (.int .i64 0))):=atv
theorem Gn:(prog.info? 110).map (λi=>(i.zero,i.size,i.bytes))=some (some (.agg #[.int .i64 0,.int .i64 0,.int .i64 0,.int .i64 0]),4,32):=ko
theorem J9{g:Nat}{e:TypeId}{m:Nat}:∀(b:List Value) (o:Nat) (w:World),(∃cur,w.heap[g]?=some (.cells cur e (0,0))/\cur.size=m)->∃cur,(w.setCells g o b).heap[g]?=some (.cells cur e (0,0))/\cur.size=m
 | [],_,_,h=>h
 | v :: r,o,w,h=>by
  rw[World.setCells];refine J9 r (o+1) _ ?_;obtain⟨cur,a,h2⟩:=h;exact⟨cur.setIfInBounds o v,by simp[World.setCell,Array.getElem?_modify,a],Bb⟩
theorem zh(g q j:Nat):(⟨g,q,none⟩:Addr).add j=⟨g,q+j,none⟩:=by
 unfold Addr.add
 split<;>simp_all
theorem aqf(A g n c k:Nat)(z:Nat->Hd)(w:World)(hA:A<=g)(H:A<=w.heap.size)(hn:n<=c)(D:c<=maxLen)(hk:k<n)(cur:Array Value)(L:w.heap[g]?=some (.cells cur 110 (0,0)))(M:cur.size=c*4)(l:Blk w g 110 (n*4) (λj=>(ba n z).getD j default)):
  Calls prog 142 #[.slice (some ⟨g,0,none⟩) n c,.int .i64 (k:Int),.int .i64 ((k:Int)+1)] w λe w'=>e = .returned (.slice (some ⟨g,0,none⟩) (n-1) c)/\Blk w' g 110 ((n-1)*4) (λj=>(ba (n-1) (gu z k)).getD j default)/\(∃a,w'.heap[g]?=some (.cells a 110 (0,0))/\a.size=c*4)/\Below A w w'/\iy g w w':=by
 have x:=D;unfold maxLen at D;obtain⟨iM,W,ar,K,au⟩:=info_parts Gn;have y:=qa3 l L M;clear l L M;have k0:(0:Int)<=(k:Int):=ow;have k1:(k:Int)+1<=(n:Int):=ow;have k2:((k:Int)+1).toNat=k+1:=ow;have k3:((k:Int)==(k:Int)+1)=false:=beq_eq_false_iff_ne.2 ow;go_enter func142,ntmps142;go_wp2_with fail;have v:Hid (Bw w w.drew/\w.drew.heap=w.heap):=⟨brf.drew,rfl⟩;refine jq [(true,[0,1,2,3,4,5],some 6),(false,[7],none)] ?_;refine⟨λw'=>∃p:Regrown,w'=grow (redrawn w p.d) p.os,Qqx (brf.drew),λh=>ix,?_⟩;simp only[jg];have t:Hid (∀G,G=c->w.drew.ownsRow A 110 4 (.slice (some ⟨g,0,none⟩) k G) k (ba k z)):=λG Y=>by
  subst Y;refine Ug (w:=w.drew) (cur:=cur) hA y.o.2.1 y.o.2.2 ow x (iz _ _) λh => ?_;have l:=y.o.1.below v.o.1;refine(l.less ow).congr λj hj => ?_;rw[Cb ow,Cb ow]
 have B:Hid (∀j u,(ba (n-(k+1)) (λj=>z (k+1+j)))[j]?=some u->w.drew.cell? ⟨g,(k+1)*4+j,none⟩=some u):=λj u hj=>by
  have hl:j<(n-(k+1))*4:=aoz;have l:=y.o.1.below v.o.1;have T:=l.cell (j:=(k+1)*4+j) ow;rw[T,Cb ow];have U:(ba (n-(k+1)) (λj=>z (k+1+j))).getD j default=u:=by simp[List.getD,hj]
  rw[<-U,Cb hl];unfold hc;rw[show((k+1)*4+j)/4=k+1+j/4 by omega,show((k+1)*4+j)%4=j%4 by omega]
 have s:Hid (∀w',w'.ownsRow A 110 4 (.slice (some ⟨g,0,none⟩) (n-1) c) (n-1) (ba k z++ba (n-(k+1)) (λj=>z (k+1+j)))->w.drew.grownBy w' (some g)->
   (∀r,(Builtin.clear_ #[34] r #[.slice (some ⟨g,(n-1)*4,none⟩) 1 (c-(n-1))]).run prog w' = .ok (.tuple #[]) (w'.setCells g ((n-1)*4) (List.replicate (1*4) (.int .i64 0)))) /\
   ∀b,b=w'.setCells g ((n-1)*4) (List.replicate (1*4) (.int .i64 0))->Blk b g 110 ((n-1)*4) (λj=>(ba (n-1) (gu z k)).getD j default)/\(∃a,b.heap[g]?=some (.cells a 110 (0,0))/\a.size=c*4)/\Below A w b/\iy g w b):=λw' i Q=>by
  obtain⟨_,⟨h,_⟩|⟨g',G,a,h,aq,F,T,U,V,h4⟩⟩:=i
  .cases h
  simp only[co,Value.slice.injEq,true_and] at h;obtain⟨rfl,rfl⟩:=h;have av:(n-1)*4+4<=a.size:=by rw[V];omega
  have J:Blk w' g 110 a.size (λj=>a.getD j default):=⟨a,F,Nat.le_refl _,λj hj=>by simp[Array.getD,hj]⟩;have l:Blk w' g 110 ((n-1)*4) (λj=>(ba (n-1) (gu z k)).getD j default):=by
   refine⟨a,F,ow,λj hj => ?_⟩;rw[Ab n z k hk,<-h4];have e:(a.toList.take ((n-1)*4))[j]?=a[j]?:=by rw[List.getElem?_take,if_pos hj];simp
   have e2:j<a.size:=ow;simp only[List.getD,e];simp[e2]
  have ab:iy g w w':=⟨by have:=Q.size;exact this,λq hq ac=>Q.block q hq (λe=>ac (by cases e;rfl))⟩;have X:Below A w w':=(v.o.1.mono H).grown Q H (λq e=>by cases e;exact hA);refine⟨λr=>Pq w' r g ((n-1)*4) 1 (c-(n-1)) ow (λj hj=>by rw[J.cell ow];rfl) (λj _=>J.frozen _),λb e => ?_⟩;subst e;exact⟨Blk.setCells _ _ _ l nlr,J9 _ _ _ ⟨a,F,V⟩,Aw hA _ _ _ X,ab.cells _ _ _⟩
 clear hA x v y;by_cases aa:c=k+1;rotate_left
 .repeat(go_big_quiet_step(fail))
  refine Qqz ?_
  generalize w.drew=S at *
  refine ma 6 rfl ?_
  (refine wpList_append_fits_any S rfl (.tmp 22) (.tmp 25) 34 rfl A 110 iM 4 underlying34 W K g k c (ba k z) rfl (t.o c rfl) (some ⟨g,(k+1)*4,none⟩) (n-(k+1)) (c-(k+1)) (ba (n-(k+1)) (λj=>z (k+1+j))) rfl (iz _ _) (λe=>En) (λad e j u hj=>by cases e;rw[zh];exact B.o j u hj) (ot _ _) ow ?_)
  intro b i m;rw[show k+(n-(k+1))=n-1 by omega] at i ⊢;obtain⟨E,f⟩:=s.o b i m;have o:Hid _:=f;clear i m s t B f;simp only[Act.put,Qvq,Qwx,Qwz];refine(?_:wpList _ _ _ [] _ _);go_wp2_with fail;refine⟨λ_=>True,trivial,λ_ _=>trivial,?_⟩;simp only[jg]
  repeat(go_big_quiet_step(fail))
  refine Qqz ?_;refine NoPanic.normal ?_;have ae:¬c=n-1:=ow;have af:(n-1)<=n:=ow;have ag:n-(n-1)=1:=ow;go_wp2_with fail;go_ret;exact⟨rfl,o.o _ rfl⟩
 subst aa;obtain rfl:n=k+1:=ow
 repeat(go_big_quiet_step(fail))
 refine Qqz ?_
 generalize w.drew=S at *
 refine ma 6 rfl ?_
 (refine wpList_append_fits_any S rfl (.tmp 22) (.tmp 25) 34 rfl A 110 iM 4 underlying34 W K g k (k+1) (ba k z) rfl (t.o (k+1) rfl) (some ⟨g,0,none⟩) 0 0 [] rfl rfl (λe=>En) (λad e j u hj=>by cases hj) (λu hu=>by cases hu) ow ?_)
 intro b i m;rw[show k+0=k+1-1 by omega] at i ⊢;obtain⟨E,f⟩:=s.o b (by rw[show k+1-(k+1)=0 by omega];exact i) m;have o:Hid _:=f;have al:∀r,(Builtin.clear_ #[34] r #[.slice (some ⟨g,k*4,none⟩) 1 1]).run prog b = .ok (.tuple #[]) (b.setCells g (k*4) (List.replicate (1*4) (.int .i64 0))):=λr=>by
  have h:=E r;rw[show k+1-1=k by omega,show k+1-k=1 by omega] at h;exact h
 clear E;clear i m s t B f;simp only[Act.put,Qvq,Qwx,Qwz];refine(?_:wpList _ _ _ [] _ _);go_wp2_with fail;refine⟨λ_=>True,trivial,λ_ _=>trivial,?_⟩;simp only[jg]
 repeat(go_big_quiet_step(fail))
 refine Qqz ?_;refine NoPanic.normal ?_;have ae:¬k+1=k+1-1:=ow;have af:(k+1-1)<=k+1:=ow;have ag:k+1-(k+1-1)=1:=ow;go_wp2_with fail;go_ret;exact⟨rfl,o.o _ rfl⟩
theorem aqe(A:Nat)(s:St)(k:Nat)(w:World)(p:A<=w.heap.size)(j:ah A w s)(K:k<s.ms.n):
  Calls prog 142 #[.slice s.ms.a s.ms.n s.ms.c,.int .i64 (k:Int),.int .i64 ((k:Int)+1)] w λe w'=>e = .returned (.slice s.ms.a (s.ms.n-1) s.ms.c)/\ah A w' (withMoves s (Ew s.ms k))/\Below A w w'/\(∀q t m g,t≠110->Blk w q t m g->Blk w' q t m g):=by
 obtain⟨E,o,F,G⟩:=j.ms;obtain⟨g,d,hA,l⟩:=G ow;rcases j.msr with S|⟨Q,cur,b,L,x,D⟩
 .omega
 rw[d] at b;simp only[co] at b;subst b;have J:=aqf A g s.ms.n s.ms.c k s.ms.z w hA p E o K cur x D l;rw[d];refine J.mono ?_;rintro e w1 ⟨rfl,u,⟨i,v,B⟩,H,r⟩;refine⟨rfl,j.keepM l r ⟨by show s.ms.n-1<=s.ms.c;omega,o,F,λ_=>⟨g,d,hA,u⟩⟩ (Or.inr ⟨g,i,d,hA,v,B⟩),H,λq t m M y f=>r.blk f (Blk.ne2 f l y)⟩
theorem Fp{size:Nat}(h:w.ownsRow A e size v n xs){k:Nat}(a:v.ownBlock=some k):A<=k:=by
 obtain⟨_,⟨rfl,_⟩|⟨g,cap,cur,rfl,b,_⟩⟩:=h
 .cases a
 simp only[Value.ownBlock,Qkx] at a;omega
theorem ah.withM{h:Hs}(k:ah A w s)(b:ct A 110 w h)(d:gp A w 110 4 h.a h.c):ah A w (withMoves s h):=
 ⟨k.on,k.rows,k.rapart,k.os,k.hs,b,d,k.si,k.so,k.sf,k.aio,k.aif,k.aof,k.ari⟩
theorem jx.flat{o:Nat}(h:jx w (some ⟨b,o,none⟩) n z)(r:q+m<=n){u:Value}(hj:(ba m (λx=>z (q+x)))[j]?=some u):w.cell? ⟨b,o+q*4+j,none⟩=some u:=by
 have p:j<m*4:=aoz;obtain⟨i,c,rfl,hc⟩:∃i c,j=i*4+c/\c<4:=⟨j/4,j%4,ow,ow⟩;rw[zk m _ i c ow hc] at hj;obtain⟨l,s,e,_,d,f,g,k⟩:=h (q+i) ow;simp only[co] at e;obtain⟨rfl,rfl⟩:=e;have a:o+q*4+(i*4+c)=o+(q+i)*4+c:=ow;rw[a,<-hj]
 match c,hc with
 | 0,_=>exact d
 | 1,_=>exact f
 | 2,_=>exact g
 | 3,_=>exact k
theorem ah.rowBlk(h:ah A w s){G:Nat}(d:b<s.on.n)(c:(s.on.r b).a=some ⟨G,0,none⟩):A<=G/\Blk w G 3 (s.on.r b).n (λj => .int .i64 ((s.on.r b).z j)):=by
 obtain⟨e,b1,b2,b3,b4,b5⟩:=h.rows b d;rw[c] at b1;simp only[co] at b1;subst b1;exact⟨b2,b5⟩
theorem de.setOn{W0 f:World}{cur:St}(h:de A c W0 cur f)(hA:W0.heap.size<=A){G:Nat}(e:b<cur.on.n)(d:(cur.on.r b).a=some ⟨G,0,none⟩)(g:Nat)(v:Int):de A c W0 (Go.Proofs.YtjgckphgagdpaaaGreatDoor.setOn cur b g v) (f.setCell ⟨G,g,none⟩ (.int .i64 v)):=by
 obtain⟨j,i⟩:=h.own.rowBlk e d;exact⟨h.own.setOn e d g v,h.box.other (a:=⟨G,g,none⟩) (Blk.ne2 h.box i dc) _,h.bel.setCell (p:=⟨G,g,none⟩) Jp _,A9⟩
theorem de.moves{B7:Nat}{W0 e:World}{cur:St}(h:de A B7 W0 cur e)(hA:W0.heap.size<=A)(k:A<=B7){m:Hs}(i:ah A d (withMoves cur m))(hb:Below A e d)(f:∀q t n g,t≠110->Blk e q t n g->Blk d q t n g):de A B7 W0 (withMoves cur m) (d.setCell ⟨B7,3,none⟩ (.slice m.a m.n m.c)):=by
 have b:=f _ _ _ _ dc h.box;refine⟨i.box b 3 _,(b.set 3 _).congr λj hj => ?_,(h.bel.trans (hb.mono hA)).setCell (p:=⟨B7,3,none⟩) G6 _,agy⟩;exact abt
theorem de.more{B7:Nat}{W0 f e:World}{m:Hd}(h:de A B7 W0 x f)(hA:W0.heap.size<=A)(o:A<=B7)(g:e.ownsRow A 110 4 v (x.ms.n+1) (ba x.ms.n x.ms.z++dt m))(d:tm A 110 f e):
  ∃k:Hs,v = .slice k.a k.n k.c/\de A B7 W0 (withMoves x k) (e.setCell ⟨B7,3,none⟩ (.slice k.a k.n k.c))/\k.n=x.ms.n+1/\(∀j,j<x.ms.n->k.z j=x.ms.z j)/\k.z x.ms.n=m/\Blk e B7 36 7 (λj=>x.cells.getD j default):=by
 obtain⟨k,rfl,ok,kn,i,kl⟩:=h.own.addM g d;have b:=d.blk h.box dc;refine⟨k,rfl,⟨ok.box b 3 _,(b.set 3 _).congr λj hj => ?_,(d.below h.bel hA h.bel.size).setCell (p:=⟨B7,3,none⟩) G6 _,?_⟩,kn,i,kl,b⟩
 .exact abt
 have l:=(d.below (Below.refl A f) nlr h.le).size;have:=h.le;simp;omega
theorem asb(w:World)(Z:Hd)(e:TypeId):∀j u,(dt Z)[j]?=some u->(w.alloc (.cells #[.int .i64 Z.o,.int .i64 Z.l,.int .i64 Z.b,.int .i64 Z.n] e)).cell? ((⟨w.heap.size,0,none⟩:Addr).add j)=some u:=by
 intro j u a;rw[zh,Nat.zero_add];have K:=Blk.new w #[.int .i64 Z.o,.int .i64 Z.l,.int .i64 Z.b,.int .i64 Z.n] e;have c:j<4:=(List.getElem?_eq_some_iff.1 a).1;rw[K.cell (j:=j) c,<-a]
 match j,c with
 | 0,_=>rfl
 | 1,_=>rfl
 | 2,_=>rfl
 | 3,_=>rfl
theorem Y3(h:ag p s=0)(c:b<p.nb):vl p s b=0/\Ck p s b=gw p s b:=by
 have f:=(et h).fm;have a:yb p s.on b=0:=by unfold yb;rw[f.sh0];simp only[beq_self_eq_true,if_true];rw[cy (by have:=f.sh.n;omega)];rfl
 have e:vl p s b=0:=by unfold vl;rw[if_pos h,a]
 exact⟨e,by unfold Ck;rw[if_pos e];rfl⟩
theorem acz(p:Pl)(s:St)(b:Nat)(w:World)(c:p.At w)(hs:s.At w)(h:ag p s=0)(a:b<p.nb):
  Calls prog 125 #[p.val,s.val,.int .i64 (b:Int)] w λe w'=>e = .returned (.tuple #[.int .i64 (gw p s b),.int .i64 0])/\Bw w w':=by
 have k:=Xs p s b w c hs;rw[(Y3 h a).1,(Y3 h a).2] at k;exact k
theorem Vu(F:cu p s)(hb:b<p.nb)(a:g<p.ns):0<=ep s b g/\ep s b g<=1800:=by
 have c:=F.sh.num b Ny g a;have d:=nd (s:=s) (b:=b) (g:=g) F.moveN;have e:=F.ms8;unfold ep;omega
theorem Y0(F:cu p s)(hb:b<p.nb): -30000<=gw p s b/\gw p s b<=1000:=by
 have c:b<s.on.n:=Ny;have e:=zy (z:=(s.on.r b).z) (zs:=p.zs) (n:=p.ns) (λj d=>⟨F.sh.num b c j d,F.sh.pl.sizes j d⟩) p.ns nlr;have f:=Ig F b s.ms.n nlr;have g:=F.ms8;have i:=F.sh.pl.ns3;have a:=F.sh.pl.bins b hb;rw[Ht] at a;simp only[Xxq,Bool.not_eq_false'] at a;have:=ar a.1.1;unfold gw;omega
theorem Kk(r:Xv p)(c:b<p.nb):(0<=(p.zb b).high/\(p.zb b).high<=200)/\0<=(p.zb b).low/\(p.zb b).low<=200:=by
 have a:=r.bins b c;rw[Ht] at a;simp only[Xxq,Bool.not_eq_false'] at a;have:=ar a.1.2;have:=ar a.2;omega
theorem U5(r:am p s)(hb:b<p.nb)(a:g<p.ns):0<=aq s b g/\aq s b g<=200:=by
 have F:=r.fm;have c:=(mv (r.goods g a)).2 b hb;have d:=F.sh.num b Ny g a;have e:=pd (s:=s) (b:=b) (g:=g) F.holdN;have f:=lm (s:=s) (b:=b) (g:=g) F.moveN;refine⟨c,?_⟩;unfold aq;omega
theorem aez(p:Pl)(s:St)(g f b:Nat)(n:Int)(w:World)(G:p.At w)(hs:s.At w)(r:am p s)(F:g<p.ns)(hf:f<p.nb)(E:b<p.nb):
  Calls prog 141 #[p.val,s.val,.agg #[.int .i64 g,.int .i64 f,.int .i64 b,.int .i64 n]] w λe w'=>e = .returned (.int .i64 (rq p s b g f))/\Bw w w':=by
 obtain⟨D,Y,B,X0,K0⟩:∃W,(((w.alloc (.cells #[.slice p.ab p.nb p.cb,.slice p.sa p.ns p.cs] 25)).alloc (.cells s.cells 36)).alloc (.cells #[.int .i64 g,.int .i64 f,.int .i64 b,.int .i64 n] 110))=W/\Bw w W/\jj W w.heap.size (w.heap.size+1) p s/\Blk W (w.heap.size+1+1) 110 4 (λj=>(#[.int .i64 g,.int .i64 f,.int .i64 b,.int .i64 n]:Array Value).getD j default):=
  ⟨_,rfl,(dx _ _ _).alloc oq _,(ku w p s _ _).below (brf.alloc nlr _),Blk.mk' (cur:=#[.int .i64 g,.int .i64 f,.int .i64 b,.int .i64 n]) vq rfl⟩
 have t:Hid (∀m,Bw D m->jj m w.heap.size (w.heap.size+1) p s/\p.At m/\s.At m/\Bw w m/\Blk m (w.heap.size+1+1) 110 4 (λj=>(#[.int .i64 g,.int .i64 f,.int .i64 b,.int .i64 n]:Array Value).getD j default)):=λm h=>⟨X0.below h,(G.below B).below h,(hs.below B).below h,B.trans (h.mono B.size),K0.below h⟩;unfold St.cells at Y;have HW:=hid Y;have leb:=G.leb;have capb:=G.capb;have les:=G.les;have caps:=G.caps;unfold maxLen at capb caps;have u:=hid r;have g0:(0:Int)<=(g:Int):=ow;have b0:(0:Int)<=(b:Int):=ow;have g1:(g:Int)<(p.ns:Int):=ow;have b1:(b:Int)<(p.nb:Int):=ow;clear Y X0 G hs r;unfold Pl.val St.val;go_enter func141,ntmps141;go_wp2_with fail;rw[HW.o];clear HW;have T:Bw D D:=Below.refl _ _;obtain⟨⟨⟨H,v,A⟩,J,y,c1,c2,c3,c4,c5,c6⟩,i,o,q,d⟩:=t.o D T;obtain⟨bb,ob,U,ad,z0,z1,z2,z3⟩:=i.bins b E;have m0:D.cell? ⟨w.heap.size+1+1,0,none⟩=some (.int .i64 g):=d.k 0;have M:D.cell? ⟨w.heap.size+1+1,2,none⟩=some (.int .i64 b):=d.k 2;have K:=d.lt;rw[U] at v;have Q:Hid (∀m,s.At m->Calls prog 126 #[.agg #[.slice s.on.a s.on.n s.on.c,.slice s.os.a s.os.n s.os.c,.slice s.hs.a s.hs.n s.hs.c,.slice s.ms.a s.ms.n s.ms.c,.slice s.si.a s.si.n s.si.c,.slice s.so.a s.so.n s.so.c,.slice s.sf.a s.sf.n s.sf.c],.int .i64 b,.int .i64 g] m λe w'=>e = .returned (.int .i64 (ep s b g))/\Bw m w'):=λm h=>Mm p s b g m h u.o.fm E F;have S:=hid o;have hi:=Kk u.o.fm.sh.pl E;have ly:=Vu u.o.fm E F;have HN:Hid (rq p s b g f=min (min ((p.zb b).high-ep s b g) (aq s f g)) ((gw p s b).tdiv (p.zs g))):=rfl;have av:=U5 u.o hf F;have fr:=Y0 u.o.fm E;have sz:=u.o.fm.sh.pl.sizes g F;have ao:=Qqq v;have au:=Qqq z3;have ap:=Qqq m0;have ar:=Qqq M;have ag:=Qqq y;have ah:=Qqq c1;have ai:=Qqq c2;have aj:=Qqq c3;have ak:=Qqq c4;have al:=Qqq c5;have an:=Qqq c6
 generalize ep s b g=LY at *
 generalize (p.zb b).high=HI at *
 clear U i o q d v A y c1 c2 c3 c4 c5 c6 z0 z1 z2 z3 m0 M T;refine Qxq ko ko ?_
 repeat(go_big_quiet_step((go_at_call 126;exact Xxz (Q.o _ (S.o.below (Qxx _ _ _))))))
 refine Qqz ?_;intro w1 X;have l:=ae X;clear ao au ap ar ag ah ai aj ak al an Q S X H J K ad;obtain⟨⟨⟨H,v,A⟩,J,y,c1,c2,c3,c4,c5,c6⟩,i,o,q,d⟩:=t.o w1 l;have m0:w1.cell? ⟨w.heap.size+1+1,0,none⟩=some (.int .i64 g):=d.k 0;have m1:w1.cell? ⟨w.heap.size+1+1,1,none⟩=some (.int .i64 f):=d.k 1;have K:=d.lt;clear i o q d;go_wp2_with fail;refine Calls.mono (Xo p s f g w1 (t.o w1 l).2.1 (t.o w1 l).2.2.1 (js u.o) hf F) ?_;rintro e L ⟨rfl,x⟩;have l:=l.trans (x.mono l.size);clear H v A J y c1 c2 c3 c4 c5 c6 m0 m1 K x
 generalize aq s f g=AV at *
 obtain⟨⟨⟨H,v,A⟩,J,y,c1,c2,c3,c4,c5,c6⟩,i,o,q,d⟩:=t.o L l;have M:L.cell? ⟨w.heap.size+1+1,2,none⟩=some (.int .i64 b):=d.k 2;have K:=d.lt;clear i o q d;go_wp2_with fail;refine Calls.mono (acz p s b L (t.o L l).2.1 (t.o L l).2.2.1 (js u.o) E) ?_;rintro e w3 ⟨rfl,x⟩;have l:=l.trans (x.mono l.size);clear H v A J y c1 c2 c3 c4 c5 c6 M K x
 generalize gw p s b=FR at *
 obtain⟨⟨⟨H,v,A⟩,J,y,c1,c2,c3,c4,c5,c6⟩,i,o,q,d⟩:=t.o w3 l;have m0:w3.cell? ⟨w.heap.size+1+1,0,none⟩=some (.int .i64 g):=d.k 0;have K:=d.lt;obtain⟨bs,os,V,a9,y0⟩:=i.sizes g F;rw[V] at A;clear i o d V
 generalize p.zs g=ZS at *
 by_cases q1:AV<HI-LY
 all_goals(
  go_wp2_with fail
  all_goals(
   go_ret;refine⟨?_,q⟩;rw[HN.o]
   generalize FR.tdiv ZS=QQ at *
   refine congrArg (λz=>Ending.returned (Value.int .i64 z)) ?_;omega))
theorem af.low(h:af x y)(r:am p y)(a:b<p.nb)(c:g<p.ns):(x.on.r b).z g+ca x b g x.ms.n=ep y b g:=h.lying r.fm a c
theorem Wf(p:Pl)(s:St)(w:World)(hp:p.At w)(hs:s.At w):
  Calls prog 75 #[p.val,s.val] w λe w'=>∃x:St,e = .returned (.tuple #[x.val,.int .i64 (ag p s)])/\x.At w'/\jb (ag p s) (Du p s) x/\(ag p s=0->ah w.heap.size w' x)/\Bw w w':=by
 obtain⟨W0,hW,fl,X0,Z0⟩:=Dh w p s;have HC:=Cq hp hs fl X0 Z0;have HW:=hid hW;have leb:=hp.leb;have dd:=hp.capb;have les:=hp.les;have df:=hp.caps;have capb:=dd;have caps:=df;have gq:=Z0.lt;unfold maxLen at capb caps;clear hW X0 Z0 hp hs;unfold Pl.val St.val;go_enter func75,ntmps75;go_wp2_with fail;rw[HW.o];obtain⟨X,o,A,q,H⟩:=HC.o W0 brf;refine(nf p s W0 o A).mono ?_;rintro e w1 ⟨rfl,hB⟩;clear X o A q H HW;obtain⟨⟨⟨l1,L,d1⟩,l2,c0,c1,c2,c3,c4,c5,c6⟩,o,A,q,H⟩:=HC.o w1 hB;by_cases h0:ag p s=0;rotate_left
 .have ez:=hid h0;have g0:(ag p s !=0)=true:=qh;clear h0;clear o A;obtain⟨zl,f0,fy,f1,zc1,f2,zc2,f3,zc3,f4,zc4,f5,zc5,f6,fz⟩:=z7 H;go_wp2_with fail;exact mu results75 H q ow rfl ez.o rfl rfl rfl
 have HR:Hid (am p s):=et h0;have H0:=hid h0;have ee:=hid q.size;have dj:Hid (Calls prog 105 #[s.val] w1 λe w'=>∃s':St,e = .returned s'.val/\af s' s/\ah w1.heap.size w' s'/\Bw w1 w'):=su p s w1 A HR.o.fm;rw[h0];clear h0 o A q H;go_wp2_with fail;refine Calls.mono dj.o ?_;rintro e w4 ⟨x0,rfl,b1,cz,bt⟩;clear dj l1 L d1 l2 c0 c1 c2 c3 c4 c5 c6;obtain⟨W5,d3,bh,K5⟩:=ab7 w4 x0;have dx:=hid d3;have hB35:=bt.trans (bh.mono bt.size);have A2:W0.heap.size<=w1.heap.size:=hB.size;have A3:w1.heap.size<=w4.heap.size:=bt.size;have dn:Hid (de w1.heap.size w4.heap.size W0 x0 W5):=⟨ah.below cz bh,K5,hB.trans (hB35.mono hB.size),Sm⟩;have dw:=hid b1;have nb6:=HR.o.fm.sh.pl.nb6;have ns3:=HR.o.fm.sh.pl.ns3;clear d3 cz K5 bt bh hB35 b1 hB;simp only[St.val];go_wp2_with fail;rw[dx.o];clear dx
 generalize w4.heap.size=B7 at *
 go_loopw [8] (λbv m=>∃(b:Nat) (x:St),b<=p.nb/\bv = .int .i64 b/\Hid (de w1.heap.size B7 W0 x m)/\Hid (af x (ox p (frX p true b) s))) (λbv _=>p.nb-(intOf bv).toNat)
 case atStart=>exact⟨0,x0,Qxz _,rfl,dn,dw⟩
 clear dn dw;obtain⟨b,x,hb,rfl,l,d⟩:=hrel;obtain⟨Y,hY⟩:∃Y,ox p (frX p true b) s=Y:=⟨_,rfl⟩;have HY:=hid hY;have ew:Hid (gx p s Y):=by show gx p s Y;rw[<-hY];exact(gx.refl HR.o).B _
 rw[hY] at d;clear hY;obtain⟨⟨⟨l1,L,d1⟩,l2,c0,c1,c2,c3,c4,c5,c6⟩,o,A,q,H⟩:=HC.o wr l.o.bel;clear o A q H l2 c0 c1 c2 c3 c4 c5 c6;by_cases t:b<p.nb;rotate_left
 .have d4:b=p.nb:=ow;have e1:Hid (af x (Du p s)):=by
   have h:=d.o;rw[<-HY.o,d4] at h;exact h
  have q1:(p.nb:Int)<=(b:Int):=ow;obtain⟨m1,p0,p1,p2,p3,p4,p5,p6⟩:=Boxed.of l.o.box;obtain⟨-,-,-,q,H⟩:=HC.o wr l.o.bel;have HZ:=qa2 q H;obtain⟨zl,f0,fy,f1,zc1,f2,zc2,f3,zc3,f4,zc4,f5,zc5,f6,fz⟩:=z7 H;have gh:=(HC.o _ brf).2.2.2.1.size;clear q H d4;go_wp2_with fail;have KZ:=s7b HZ.o.2 x;have d5:=s7w (b:=w.heap.size+2) HZ.o.1 ow x;have cv:=s7o l.o.own HZ.o.2 x;unfold set7 at KZ d5 cv;obtain⟨e9,fa,fb,fc,fd,fe,ff⟩:=dp KZ;refine Xzq (v := .tuple #[x.val,.int .i64 0]) (by simp[results,results75,go_sem,St.val,e9,fa,fb,fc,fd,fe,ff]) rfl ?_;exact⟨x,N0,cv.at,⟨λ_=>e1.o,λh=>absurd H0.o h⟩,λ_=>cv.mono ee.o,d5⟩
 have q0:(0:Int)<=(b:Int):=ow;have q1:(b:Int)<(p.nb:Int):=ow;have du:Hid (af x (if (p.zb b).front=true then jp p b 0 Y else Y)):=by
  have h:=d.o
  split<;>exact h
 go_wp2_with fail;clear l1 L d1 d
 go_loopw [9] (λgv m=>∃(gg:Nat) (x:St),gg<=p.ns/\gv = .int .i64 gg/\Hid (de w1.heap.size B7 W0 x m)/\Hid (af x (if (p.zb b).front=true then jp p b gg Y else Y))) (λgv _=>p.ns-(intOf gv).toNat)
 case atStart=>exact⟨0,x,Qxz _,rfl,l,du⟩
 clear l du;obtain⟨g,x,hg,rfl,l,d⟩:=hrel;obtain⟨⟨⟨l1,L,d1⟩,l2,c0,c1,c2,c3,c4,c5,c6⟩,o,A,q,H⟩:=HC.o wr l.o.bel;obtain⟨bb,ob,V,al,z0,z1,z2,z3⟩:=o.bins b t;have ev:=hid V;rw[V] at L;clear o A q H l2 c0 c1 c2 c3 c4 c5 c6 V;by_cases Q:(p.zb b).front=true;rotate_left
 .-- not in front
  have D:Hid (af x (ox p (frX p true (b+1)) s)):=by
   have h:=d.o;rw[if_neg Q] at h;rw[P4 Q,HY.o];exact h
  have d6:(p.zb b).front=false:=by simpa using Q
  rw[d6] at z0;clear d Q d6;by_cases E:g<p.ns
  .have r1:(g:Int)<(p.ns:Int):=ow;exact abo
  have r1:(p.ns:Int)<=(g:Int):=ow;exact abo
 rw[if_pos Q] at d;have ar:=hid Q;by_cases E:g<p.ns;rotate_left
 .have d8:g=p.ns:=ow;have D:Hid (af x (ox p (frX p true (b+1)) s)):=by
   rw[Jg ⟨t,ar.o⟩,Q7,HY.o];have h:=d.o;rw[d8] at h;exact h
  have r1:(p.ns:Int)<=(g:Int):=ow;clear d8;rw[Q] at z0;exact abo
 have r0:(0:Int)<=(g:Int):=ow;have r1:(g:Int)<(p.ns:Int):=ow;rw[Q] at z0;go_wp2_with fail;obtain⟨YG,bw⟩:∃y,jp p b g Y=y:=⟨_,rfl⟩;have co:=hid bw;have cl:Hid (gx p s YG):=by show gx p s YG;rw[<-bw];exact ew.o.G t ar.o hg
 rw[bw] at d;clear bw;have i:Hid (am p x):=d.o.right cl.o.r;have xb:b<x.on.n:=ak2;have ce:g<(x.on.r b).n:=aj4;have xn:(x.on.r b).n=p.ns:=i.o.fm.sh.len b xb;have ds:Hid ((x.on.r b).z g+ca x b g x.ms.n=ep YG b g):=d.o.low cl.o.r t E;have ea:=i.o.fm.sh.num b xb g E;have dz:=nd (s:=x) (b:=b) (g:=g) i.o.fm.moveN;have ms8:=i.o.fm.ms8;have lo:=Kk HR.o.fm.sh.pl t;obtain⟨m1,p0,p1,p2,p3,p4,p5,p6⟩:=Boxed.of l.o.box;obtain⟨g0,G0,a1,a2,a3,a4,a5,a6,a7,a8,a9,cp,br,ak⟩:=l.o.own.onCell xb ce;unfold maxLen at a8 ak;have K:=hid l.o.own.at;have U:=hid a1;have T:Hid (∀m,x.At m->Calls prog 104 #[.agg #[.slice (some ⟨g0,0,none⟩) x.on.n x.on.c,.slice x.os.a x.os.n x.os.c,.slice x.hs.a x.hs.n x.hs.c,.slice x.ms.a x.ms.n x.ms.c,.slice x.si.a x.si.n x.si.c,.slice x.so.a x.so.n x.so.c,.slice x.sf.a x.sf.n x.sf.c],.int .i64 b,.int .i64 g] m λe w'=>e = .returned (.int .i64 (ca x b g x.ms.n))/\Bw m w'):=λm h=>by have k:=Fe p x b g m h i.o.fm;rw[St.val,U.o] at k;exact k
 have s0:(b:Int)<(x.on.n:Int):=ow;have s1:(g:Int)<((x.on.r b).n:Int):=ow;rw[a1] at p0;have b4:=Qqq L;have eb:=Qqq z2;have b5:=Qqq p0;have b6:=Qqq p1;have b7:=Qqq p2;have b8:=Qqq p3;have b9:=Qqq p4;have cc:=Qqq p5;have cd:=Qqq p6;have b2:=Qqq a3;have b3:=Qqq a9;clear a1 a4 a5 cp
 generalize hCO:ca x b g x.ms.n=CO at *
 generalize hZO:(x.on.r b).z g=ZO at *
 have ey:Hid ((p.zb b).low=(p.zb b).low):=rfl
 generalize hLW:(p.zb b).low=LW at *
 have HQ:=qa2 ds.o hLW;have e3:=qa2 hCO hZO;clear ds hLW ey hCO hZO l1 L d1 z0 z1 z2 z3 p0 p1 p2 p3 p4 p5 p6 a3 a9;by_cases d9:LW<=ZO+CO
 .refine Qxq ko ko ?_
  repeat(go_big_quiet_step((go_at_call 104;exact Xxz (T.o _ (K.o.below (Qxx _ _ _))))))
  refine Qqz ?_;intro w6 S;have M:=ae S;have l:=hid (l.o.below M);clear S M K T b4 eb b5 b6 b7 b8 b9 cc cd b2 b3 m1 a2 a6 a7 a8 br ak al;have D:Hid (af x (if (p.zb b).front=true then jp p b (g+1) Y else Y)):=by
   rw[if_pos ar.o,Vf as5,co.o];exact d.o
  exact anb
 refine Qxq ko ko ?_
 repeat(go_big_quiet_step((go_at_call 104;exact Xxz (T.o _ (K.o.below (Qxx _ _ _))))))
 refine Qqz ?_;intro w6 S;have M:=ae S;have l:=hid (l.o.below M);clear S M K T b4 eb b5 b6 b7 b8 b9 cc cd b2 b3 m1 a2 a6 a7 a8 br ak al;have e0:Hid (¬(p.zb b).low<=ep (jp p b g Y) b g):=as5;have dv:=hid d.o;clear HQ e3 d i U ea dz xb ce xn s0 s1 ms8 d9;go_wp2_with fail
 go_loopw [10] (λfv m=>∃(f:Nat) (x:St),f<=p.nb/\fv = .int .i64 f/\Hid (de w1.heap.size B7 W0 x m)/\Hid (af x (ka p b g (frX p false f) YG))) (λfv _=>p.nb-(intOf fv).toNat)
 case atStart=>exact⟨0,x,Qxz _,rfl,l,dv⟩
 clear l dv;obtain⟨f,x,hf,rfl,l,d⟩:=hrel;obtain⟨YF,bu⟩:∃y,ka p b g (frX p false f) YG=y:=⟨_,rfl⟩;have cn:=hid bu;have dk:Hid (gx p s YF):=by show gx p s YF;rw[<-bu];exact cl.o.F t ar.o E _
 rw[bu] at d;clear bu;obtain⟨⟨⟨l1,L,d1⟩,l2,c0,c1,c2,c3,c4,c5,c6⟩,o,A,q,H⟩:=HC.o wr l.o.bel;clear A q H l2 c0 c1 c2 c3 c4 c5 c6;by_cases au:f<p.nb;rotate_left
 .have d7:f=p.nb:=ow;have D:Hid (af x (if (p.zb b).front=true then jp p b (g+1) Y else Y)):=by
   rw[if_pos ar.o,Yu (by have:=e0.o;omega),co.o,<-d7,cn.o];exact d.o
  have q2:(p.nb:Int)<=(f:Int):=ow;clear o d7;exact anb
 have q2:(0:Int)<=(f:Int):=ow;have q3:(f:Int)<(p.nb:Int):=ow;obtain⟨bb,ob,V,al,z0,z1,z2,z3⟩:=o.bins f au;have ev:=hid V;rw[V] at L;have aj:=hid o;clear o V;have i:Hid (am p x):=d.o.right dk.o.r;have ms8:=i.o.fm.ms8;have HMN:=hid d.o.ms.1;obtain⟨m1,p0,p1,p2,p3,p4,p5,p6⟩:=Boxed.of l.o.box;by_cases bz:(p.zb f).front=true
 .have D:Hid (af x (ka p b g (frX p false (f+1)) YG)):=by
   rw[P4 (by rw[bz];decide),cn.o];exact d.o
  rw[bz] at z0;clear i HMN aj;exact abn
 have bj:(p.zb f).front=false:=by simpa using bz
 have ai:Hid (ka p b g (frX p false (f+1)) YG=qe p b g f YF):=by show _=_;rw[Jg ⟨au,bj⟩,Q8,cn.o]
 rw[bj] at z0;clear bz bj;by_cases fo:8<=x.ms.n
 .have D:Hid (af x (ka p b g (frX p false (f+1)) YG)):=by
   rw[ai.o,Gk (by rw[<-HMN.o];exact fo)];exact d.o
  have q4:(8:Int)<=(x.ms.n:Int):=ow;clear i HMN aj ai;exact abn
 have q4:(x.ms.n:Int)<8:=ow;have xb:b<x.on.n:=ak2;have ce:g<(x.on.r b).n:=aj4;have xn:(x.on.r b).n=p.ns:=i.o.fm.sh.len b xb;go_wp2_with fail;clear L z0 z1 z2 z3 al;obtain⟨-,L,-⟩:=(HC.o wr l.o.bel).1.1;obtain⟨e8,fr,bi,al,z0,z1,z2,z3⟩:=aj.o.bins b t;rw[bi] at L;obtain⟨bs,os,cy,fn,y0⟩:=aj.o.sizes g E;have cm:=qa2 cy bi;rw[cy] at d1;obtain⟨g0,G0,a1,a2,a3,a4,a5,a6,a7,a8,a9,cp,br,ak⟩:=l.o.own.onCell xb ce;unfold maxLen at a8 ak;have K:=hid l.o.own.at;have U:=hid a1;have T:Hid (∀m,x.At m->Calls prog 104 #[.agg #[.slice (some ⟨g0,0,none⟩) x.on.n x.on.c,.slice x.os.a x.os.n x.os.c,.slice x.hs.a x.hs.n x.hs.c,.slice x.ms.a x.ms.n x.ms.c,.slice x.si.a x.si.n x.si.c,.slice x.so.a x.so.n x.so.c,.slice x.sf.a x.sf.n x.sf.c],.int .i64 b,.int .i64 g] m λe w'=>e = .returned (.int .i64 (ca x b g x.ms.n))/\Bw m w'):=λm h=>by have k:=Fe p x b g m h i.o.fm;rw[St.val,U.o] at k;exact k
 have di:Hid (∀m,x.At m->Calls prog 109 #[.agg #[.slice (some ⟨g0,0,none⟩) x.on.n x.on.c,.slice x.os.a x.os.n x.os.c,.slice x.hs.a x.hs.n x.hs.c,.slice x.ms.a x.ms.n x.ms.c,.slice x.si.a x.si.n x.si.c,.slice x.so.a x.so.n x.so.c,.slice x.sf.a x.sf.n x.sf.c],.int .i64 f,.int .i64 g] m λe w'=>e = .returned (.int .i64 (aq x f g))/\Bw m w'):=λm h=>by have k:=O5 p x f g m h i.o.fm au E;rw[St.val,U.o] at k;exact k
 have dm:Hid (∀m,p.At m->x.At m->Calls prog 103 #[.agg #[.slice (some ⟨e8,fr,none⟩) p.nb p.cb,.slice (some ⟨bs,os,none⟩) p.ns p.cs],.agg #[.slice (some ⟨g0,0,none⟩) x.on.n x.on.c,.slice x.os.a x.os.n x.os.c,.slice x.hs.a x.hs.n x.hs.c,.slice x.ms.a x.ms.n x.ms.c,.slice x.si.a x.si.n x.si.c,.slice x.so.a x.so.n x.so.c,.slice x.sf.a x.sf.n x.sf.c],.int .i64 b] m λe w'=>e = .returned (.int .i64 (gw p x b))/\Bw m w'):=λm h1 h=>by have k:=Qp p x b m h1 h i.o.fm t;rw[St.val,Pl.val,U.o,cm.o.1,cm.o.2] at k;exact k
 have s0:(b:Int)<(x.on.n:Int):=ow;have s1:(g:Int)<((x.on.r b).n:Int):=ow;rw[a1] at p0;have ea:=i.o.fm.sh.num b xb g E;have dz:=nd (s:=x) (b:=b) (g:=g) i.o.fm.moveN;have gt:=Kk HR.o.fm.sh.pl t;have gr:=U5 i.o au E;have gs:=Y0 i.o.fm t;have gy:=HR.o.fm.sh.pl.sizes g E;have dq:Hid (min (min ((p.zb b).high-(x.on.r b).z g-ca x b g x.ms.n) (aq x f g)) ((gw p x b).tdiv (p.zs g))=rq p YF b g f):=by
  show _=_;rw[<-Kg d.o dk.o.r.fm t E au,rq,ep]
  congr 2
  omega
 have b4:=Qqq L;have fs:=Qqq d1;have fu:=Qqq z3;have b5:=Qqq p0;have b6:=Qqq p1;have b7:=Qqq p2;have b8:=Qqq p3;have b9:=Qqq p4;have cc:=Qqq p5;have cd:=Qqq p6;have b2:=Qqq a3;have b3:=Qqq a9;have ft:=Qqq y0;clear a1 a4 a5 cp cy bi
 generalize ca x b g x.ms.n=CO at *
 generalize (x.on.r b).z g=ZO at *
 generalize aq x f g=AV at *
 generalize gw p x b=FR at *
 generalize p.zs g=ZS at *
 generalize (p.zb b).high=HI at *
 clear L d1 z0 z1 z2 z3 p0 p1 p2 p3 p4 p5 p6 a3 a9 y0 l1;refine Qxq ko ko ?_
 repeat(go_big_quiet_step((first|(go_at_call 104;exact Xxz (T.o _ (K.o.below (Qxx _ _ _))))|(go_at_call 109;exact Xxz (di.o _ (K.o.below (Qxx _ _ _))))|(go_at_call 103;exact Xxz (dm.o _ (aj.o.below (Qxx _ _ _)) (K.o.below (Qxx _ _ _)))))))
 refine Qqz ?_;intro w6 S;have M:=ae S;have l:=hid (l.o.below M);clear S M K T di dm b4 fs fu b5 b6 b7 b8 b9 cc cd b2 b3 ft m1 a2 a6 a7 a8 br ak al fn aj cm U;obtain⟨NN,cu⟩:∃NN,(if FR.tdiv ZS<if AV<HI-ZO-CO then AV else HI-ZO-CO then FR.tdiv ZS else if AV<HI-ZO-CO then AV else HI-ZO-CO)=NN:=⟨_,rfl⟩;rw[cu];have bq:Hid (NN=rq p YF b g f):=by
  show NN=_;rw[<-dq.o,<-cu]
  generalize FR.tdiv ZS=QQ
  split<;>split<;>omega
 clear cu dq;by_cases h1:0<NN;rotate_left
 .have D:Hid (af x (ka p b g (frX p false (f+1)) YG)):=by
   rw[ai.o];unfold qe;rw[<-bq.o,if_neg ow];exact d.o
  clear ai bq HMN i;exact abn
 have dl:Hid (qe p b g f YF=jf YF ⟨g,f,b,NN⟩):=by
  show _=_;unfold qe;rw[<-bq.o,if_pos ⟨aar,ow⟩]
 obtain⟨iM,hM,fh,fi,fj⟩:=info_parts Gn;obtain⟨W7,cw,cx⟩:∃W,w6.alloc (.cells #[.int .i64 (g:Int),.int .i64 (f:Int),.int .i64 (b:Int),.int .i64 NN] 110)=W/\Bw w6 W:=⟨_,rfl,brf.alloc nlr _⟩;have dy:=hid cw;have dr:Hid (∀j u,(dt ⟨g,f,b,NN⟩)[j]?=some u->W7.cell? ((⟨w6.heap.size,0,none⟩:Addr).add j)=some u):=by rw[<-cw];exact asb w6 ⟨g,f,b,NN⟩ _
 obtain⟨m1,p0,p1,p2,p3,p4,p5,p6⟩:=Boxed.of l.o.box;have J:=hid (l.o.below cx);have gu:=J.o.own.ms.1;have fq:=J.o.own.ms.2.1;unfold maxLen at fq;clear cw cx p0 p1 p2 p4 p5 p6 l;go_wp2_with(at_builtin;rw[dy.o];refine vv W7 rfl (.tmp 120) (.tmp 126) 34 rfl w1.heap.size 110 iM (.agg #[.int .i64 0,.int .i64 0,.int .i64 0,.int .i64 0]) 4 32 underlying34 hM fh fi fj rfl dc x.ms.a x.ms.n x.ms.c (ba x.ms.n x.ms.z) rfl J.o.own.msr J.o.own.ms.1 J.o.own.ms.2.1 (iz _ _) J.o.own.ms.2.2.2 ⟨w6.heap.size,0,none⟩ 1 1 (dt ⟨g,f,b,NN⟩) rfl rfl dr.o (λu hu=>asp) dc ?zc3 ?zc4 J.o.le ?_)
 case zc3=>unfold maxLen;omega
 case zc4=>omega
 intro v2 w2 b0 av;obtain⟨k,rfl,d2,kn,kz,kl,bx⟩:=J.o.more A2 A3 b0 av;have ex:=hid d2;have D:Hid (af (withMoves x k) (ka p b g (frX p false (f+1)) YG)):=by
  rw[ai.o,dl.o];exact F5 d.o _ kn kz kl
 have z1:=bx.lt;have z2:=bx.frozen 3;have z3:=bx.k 3;clear b0 av d2 kn kz kl bx J dr dy m1 p3 dl ai bq
 try simp only[Act.put,Qvq,Qwx,Qwz]
 go_wp2_with fail;go_roundw
 case rel=>exact⟨f+1,withMoves x k,ow,vo,ex,D⟩
 case measure=>simp[intOf];omega
theorem Tv(p:Pl)(s:St)(k n:Int)(w:World)(hp:p.At w)(hs:s.At w):
  Calls prog 76 #[p.val,s.val,.int .i64 k,.int .i64 n] w λe w'=>∃x:St,e = .returned (.tuple #[x.val,.int .i64 (gj p s k n)])/\x.At w'/\jb (gj p s k n) (li s k.toNat n) x/\(gj p s k n=0->ah w.heap.size w' x)/\Bw w w':=by
 obtain⟨W0,hW,f5,X0,Z0⟩:=Dh w p s;have HC:=Cq hp hs f5 X0 Z0;have HW:=hid hW;have leb:=hp.leb;have b5:=hp.capb;have les:=hp.les;have b6:=hp.caps;have capb:=b5;have caps:=b6;have g9:=Z0.lt;unfold maxLen at capb caps;have ek:=hs.ms.le;have bp:=hs.ms.cap;have c8:s.ms.n<=maxLen:=Qzx ek bp;have ej:=bp;have el:=c8;unfold maxLen at ej el;clear hW X0 Z0 hp hs;unfold Pl.val St.val;go_enter func76,ntmps76;go_wp2_with fail;rw[HW.o];obtain⟨X,H,y,D,J⟩:=HC.o W0 brf;refine(nf p s W0 H y).mono ?_;rintro e w1 ⟨rfl,hB⟩;clear X H y D J HW;obtain⟨⟨⟨l1,d0,d1⟩,l2,c0,c1,c2,c3,c4,c5,c6⟩,H,y,D,J⟩:=HC.o w1 hB;by_cases h0:ag p s=0;rotate_left
 .have HX:Hid (gj p s k n=ag p s):=Cp h0;have b4:Hid (¬gj p s k n=0):=atm;have g0:(ag p s !=0)=true:=qh;clear h0;clear H y;obtain⟨zl,dn,dl,dq,zc1,dr,zc2,bf,zc3,ds,zc4,dt,zc5,du,dm⟩:=z7 J;go_wp2_with fail;exact mu results76 J D ow HX.o (λh=>b4.o (HX.o.trans h)) rfl rfl rfl
 have H0:=hid h0;have HR:Hid (am p s):=et h0;rw[h0];clear h0;cases h1:inB k 0 ((s.ms.n:Int)-1)
 .have HX:Hid (gj p s k n=4):=Ix H0.o h1;have b4:Hid (¬gj p s k n=0):=pr;clear H y;obtain⟨zl,dn,dl,dq,zc1,dr,zc2,bf,zc3,ds,zc4,dt,zc5,du,dm⟩:=z7 J;go_wp2_with(go_at_call 34;refine ap (da _ _ _ _) ?_);exact mu results76 J D ow HX.o dc rfl rfl rfl
 obtain⟨i,rfl⟩:∃i:Nat,k=i:=⟨k.toNat,Si⟩;have hi:i<s.ms.n:=Si;have HMV:=sl (HR.o.fm.move i hi);obtain⟨f,b,g,N,hm⟩:∃(f b g:Nat) (N:Int),s.ms.z i=⟨g,f,b,N⟩:=⟨(s.ms.z i).l.toNat,(s.ms.z i).b.toNat,(s.ms.z i).o.toNat,(s.ms.z i).n,axn⟩;have HM:=hid hm;rw[hm] at HMV;dsimp only at HMV;obtain⟨u1,u2,u3,u4,u5,u6⟩:=HMV;have hgn:g<p.ns:=ow;have hfn:f<p.nb:=ow;have hbn:b<p.nb:=ow;have hne:¬f=b:=ow;have H1:=hid h1;obtain⟨bm,om,cy,f6,y0,y1,y2,y3⟩:=y.ms.hds i hi;rw[hm] at y0 y1 y2 y3;dsimp only at y0 y1 y2 y3;have b0:=hid cy;rw[cy] at c3;obtain⟨W2,ec,cw,K2⟩:∃W,w1.alloc (.cells #[.int .i64 (g:Int),.int .i64 (f:Int),.int .i64 (b:Int),.int .i64 N] 110)=W/\Bw w1 W/\Blk W w1.heap.size 110 4 (λj=>(#[.int .i64 (g:Int),.int .i64 (f:Int),.int .i64 (b:Int),.int .i64 N]:Array Value).getD j default):=⟨_,rfl,brf.alloc nlr _,Blk.mk' rfl rfl⟩;have d8:=hid ec;have b7:=hB.trans (cw.mono hB.size);have t:=hid K2;have q0:(0:Int)<=(i:Int):=ow;have q1:(i:Int)<(s.ms.n:Int):=ow;have A1:W0.heap.size<=w1.heap.size:=hB.size;clear H y D J cy ec K2 hm;go_wp2_with fail;refine ap (da _ _ _ _) ?_;go_wp2_with fail;rw[d8.o];refine ap (da _ _ _ _) ?_;clear l1 d0 d1 l2 c0 c1 c2 c3 c4 c5 c6 f6 y0 y1 y2 y3 d8 cw hB h1
 generalize w1.heap.size=BM at *
 obtain⟨⟨⟨l1,d0,d1⟩,l2,c0,c1,c2,c3,c4,c5,c6⟩,H,y,D,J⟩:=HC.o W2 b7;rw[b0.o] at c3;cases h2:inB n 0 N
 .have HX:Hid (gj p s i n=3):=Gu H0.o H1.o atl;have b4:Hid (¬gj p s i n=0):=pr;exact al2
 have nn:=ar h2;have H2:Hid (inB n 0 (s.ms.z (i:Int).toNat).n=true):=asd;have onn:b<s.on.n:=ak5;have rn:=HR.o.fm.sh.len b onn;have HSN:Hid ((s.on.r (s.ms.z (i:Int).toNat).b.toNat).z (s.ms.z (i:Int).toNat).o.toNat=(s.on.r b).z g):=asg;obtain⟨bo,oo,eg,f7,z0,au⟩:=y.on.rows b onn;obtain⟨br,hb,eh,f8,z1⟩:=au.ints g ow;have v1:=au.le;have v2:=au.cap;have v3:=y.on.le;have v4:=y.on.cap;unfold maxLen at v2 v4;have zb:=HR.o.fm.sh.num b onn g hgn;have m0:W2.cell? ⟨BM,0,none⟩=some (.int .i64 g):=t.o.k 0;have m2:W2.cell? ⟨BM,2,none⟩=some (.int .i64 b):=t.o.k 2;have ml:=t.o.lt;have q2:(0:Int)<=(b:Int):=ow;have q3:(b:Int)<(s.on.n:Int):=ow;have q4:(0:Int)<=(g:Int):=ow;have q5:(g:Int)<((s.on.r b).n:Int):=ow;rw[eg] at c0;rw[eh] at z0;have gb:=Qqq c0;have gd:=Qqq z0;have ge:=Qqq z1;have be:=Qqq m0;have gc:=Qqq m2
 generalize hZB:(s.on.r b).z g=ZB at *
 clear eg eh au c1 c2 c3 c4 c5 c6 d0 d1 m0 m2 z0 z1 c0;go_wp2_with fail;refine Qxq ko ko ?_
 repeat(go_big_quiet_step(fail))
 refine Qqz ?_;intro w3 ei;have bl:=ae ei;have t:=hid (t.o.below bl);have b8:=b7.trans (bl.mono b7.size);clear gb gd ge be gc ei f7 f8 ml H y D J l1 l2 bl b7 v1 v2 v3 v4;obtain⟨⟨⟨l1,d0,d1⟩,l2,c0,c1,c2,c3,c4,c5,c6⟩,H,y,D,J⟩:=HC.o w3 b8;by_cases h3:200<ZB+n
 .have HX:Hid (gj p s i n=2):=Iw H0.o H1.o H2.o Sp;have b4:Hid (¬gj p s i n=0):=pr;have eb:200-ZB<n:=ow;exact al2
 have HX:Hid (gj p s i n=0):=Vx H0.o H1.o H2.o Sp;have HI:Hid (sd p s i f b g N n):=⟨HR.o,hi,HM.o,hfn,hbn,hgn,hne,nn.1,nn.2,u5,u6,by rw[hZB];omega⟩;have eb:¬200-ZB<n:=ow;have eq:=hid D.size;have d5:Hid (Calls prog 105 #[s.val] w3 λe w'=>∃s':St,e = .returned s'.val/\af s' s/\ah w3.heap.size w' s'/\Bw w3 w'):=su p s w3 y HR.o.fm;have ha:=hid D;clear H y D J h3 HSN;go_wp2_with fail;refine Calls.mono d5.o ?_;rintro e w4 ⟨E,rfl,hsame,M,b9⟩;clear d5 l1 d0 d1 l2 c0 c1 c2 c3 c4 c5 c6 h2 eb;have fo:=hid hsame;have he:i<E.ms.n:=by rw[hsame.ms.1];exact hi
 have x0f:f<E.on.n:=atb;have x0b:b<E.on.n:=atc;have bv:g<(E.on.r f).n:=axq;have di:g<(E.on.r b).n:=asu;have vf:0<=(E.on.r f).z g/\(E.on.r f).z g<=200:=axm;have vb:0<=(E.on.r b).z g/\(E.on.r b).z g<=200:=as3;obtain⟨W5,ed,bn,K5⟩:=ab7 w4 E;have cl:=hid ed;have hB35:=b9.trans (bn.mono b9.size);have A2:W0.heap.size<=w3.heap.size:=b8.size;have A3:w3.heap.size<=w4.heap.size:=b9.size;have ak:Hid (de w3.heap.size w4.heap.size W0 E W5):=⟨ah.below M bn,K5,b8.trans (hB35.mono b8.size),Sm⟩;have e0:BM<w3.heap.size:=t.o.lt;have t:=hid (t.o.below hB35);clear ed M K5 b9 bn hB35 hsame zb;obtain⟨m1,p0,p1,p2,p3,p4,p5,p6⟩:=Boxed.of ak.o.box;rw[<-cl.o] at m1 p0 p1 p2 p3 p4 p5 p6;simp only[St.val];go_wp2_with fail;rw[cl.o];clear m1 p0 p1 p2 p3 p4 p5 p6 cl
 generalize w4.heap.size=B7 at *
 have wf:=vf;have wb:=vb;clear vf vb;obtain⟨g0,G,a1,a2,a3,a4,a5,a6,a7,a8,a9,cm,cn,a0⟩:=ak.o.own.onCell x0f bv;have u0:W5.cell? ⟨B7,0,none⟩=some (.slice E.on.a E.on.n E.on.c):=ak.o.box.k 0;have dh:=ak.o.box.lt;rw[a1] at u0;unfold maxLen at a8 a0;have m0:W5.cell? ⟨BM,0,none⟩=some (.int .i64 g):=t.o.k 0;have m1:W5.cell? ⟨BM,1,none⟩=some (.int .i64 f):=t.o.k 1;have ml:=t.o.lt;have r0:(0:Int)<=(f:Int):=ow;have r1:(f:Int)<(E.on.n:Int):=ow;have r2:(0:Int)<=(g:Int):=ow;have r3:(g:Int)<((E.on.r f).n:Int):=ow;have df:=Qqq u0;have c9:=Qqq a3;have db:=Qqq a9;have be:=Qqq m0;have dd:=Qqq m1;clear u0 a1 a3 a9 m0 m1;refine jq [(true,[0,1,2,3,4,5,6,7,8,9,10,11,12,13,14,15,16,17,18,19,20],some 21)] ?_;refine⟨λw'=>∃p:Regrown,w'=grow (redrawn W5 p.d) p.os,Qqx (brf.drew),λh=>ix,?_⟩;simp only[jg]
 repeat(go_big_quiet_step(fail))
 refine Qqz ?_;clear df c9 db be dd dh ml a2 a6 cm;have aj:Bw W5 W5.drew:=brf.drew
 generalize W5.drew=wj at *
 have ab:=hid (ak.o.below aj);have ac:=hid (t.o.below aj);have gB:=(ab.o.own.rowBlk x0f a4).2;have b1:=gB.lt;have b2:=gB.frozen g;have b3:=gB.cell bv;have ax:Hid (de w3.heap.size B7 W0 (setOn E f g ((E.on.r f).z g-n)) (wj.setCell ⟨G,g,none⟩ (.int .i64 ((E.on.r f).z g-n)))):=ab.o.setOn A2 x0f a4 g _;have t:Hid (Blk (wj.setCell ⟨G,g,none⟩ (.int .i64 ((E.on.r f).z g-n))) BM 110 4 (λj=>(#[.int .i64 (g:Int),.int .i64 (f:Int),.int .i64 (b:Int),.int .i64 N]:Array Value).getD j default)):=ac.o.other (a:=⟨G,g,none⟩) (Blk.ne2 ac.o gB dc) _;clear aj gB ak ab ac a4 a5 a7 a8 cn a0;refine ma 21 rfl ?_;go_wp2_with fail;refine NoPanic.normal ?_;clear b1 b2 b3 r0 r1 r2 r3
 generalize wj.setCell ⟨G,g,none⟩ (.int .i64 ((E.on.r f).z g-n))=W6 at *
 go_wp2_with fail
 generalize hx2:setOn E f g ((E.on.r f).z g-n)=x2 at *
 have d9:=hid hx2;have ce:b<x2.on.n:=by rw[<-hx2];exact x0b
 have bx:g<(x2.on.r b).n:=by rw[<-hx2,vr];exact di
 have en:Hid ((x2.on.r b).z g=(E.on.r b).z g):=asf;have gn:0<=(x2.on.r b).z g/\(x2.on.r b).z g<=200:=by rw[en.o];exact wb
 clear hx2;obtain⟨g0,G,a1,a2,a3,a4,a5,a6,a7,a8,a9,cm,cn,a0⟩:=ax.o.own.onCell ce bx;have u0:W6.cell? ⟨B7,0,none⟩=some (.slice x2.on.a x2.on.n x2.on.c):=ax.o.box.k 0;have dh:=ax.o.box.lt;rw[a1] at u0;unfold maxLen at a8 a0;have m0:W6.cell? ⟨BM,0,none⟩=some (.int .i64 g):=t.o.k 0;have m1:W6.cell? ⟨BM,2,none⟩=some (.int .i64 b):=t.o.k 2;have ml:=t.o.lt;have r0:(0:Int)<=(b:Int):=ow;have r1:(b:Int)<(x2.on.n:Int):=ow;have r2:(0:Int)<=(g:Int):=ow;have r3:(g:Int)<((x2.on.r b).n:Int):=ow;have df:=Qqq u0;have c9:=Qqq a3;have db:=Qqq a9;have be:=Qqq m0;have dd:=Qqq m1;clear u0 a1 a3 a9 m0 m1;refine jq [(true,[0,1,2,3,4,5,6,7,8,9,10,11,12,13,14,15,16,17,18,19,20],some 21)] ?_;refine⟨λw'=>∃p:Regrown,w'=grow (redrawn W6 p.d) p.os,Qqx (brf.drew),λh=>ix,?_⟩;simp only[jg]
 repeat(go_big_quiet_step(fail))
 refine Qqz ?_;clear df c9 db be dd dh ml a2 a6 cm;have aj:Bw W6 W6.drew:=brf.drew
 generalize W6.drew=wj at *
 have ab:=hid (ax.o.below aj);have ac:=hid (t.o.below aj);have gB:=(ab.o.own.rowBlk ce a4).2;have b1:=gB.lt;have b2:=gB.frozen g;have b3:=gB.cell bx;have Y:Hid (de w3.heap.size B7 W0 (setOn x2 b g ((x2.on.r b).z g+n)) (wj.setCell ⟨G,g,none⟩ (.int .i64 ((x2.on.r b).z g+n)))):=ab.o.setOn A2 ce a4 g _;have t:Hid (Blk (wj.setCell ⟨G,g,none⟩ (.int .i64 ((x2.on.r b).z g+n))) BM 110 4 (λj=>(#[.int .i64 (g:Int),.int .i64 (f:Int),.int .i64 (b:Int),.int .i64 N]:Array Value).getD j default)):=ac.o.other (a:=⟨G,g,none⟩) (Blk.ne2 ac.o gB dc) _;clear aj gB ax ab ac a4 a5 a7 a8 cn a0;refine ma 21 rfl ?_;go_wp2_with fail;refine NoPanic.normal ?_;clear b1 b2 b3 r0 r1 r2 r3
 generalize wj.setCell ⟨G,g,none⟩ (.int .i64 ((x2.on.r b).z g+n))=F at *
 go_wp2_with fail
 generalize hx3:setOn x2 b g ((x2.on.r b).z g+n)=x3 at *
 have ea:=hid hx3;clear hx3;obtain⟨iM,hM,ca,cb,cc⟩:=info_parts Gn;obtain⟨⟨⟨l1,d0,d1⟩,l2,c0,c1,c2,c3,c4,c5,c6⟩,H,y,D,J⟩:=HC.o F Y.o.bel;have d6:=hid y.ms;have ms8:=HR.o.fm.ms8;rw[b0.o] at c3;have em:=Qqq c3;clear H y D J c0 c1 c2 c4 c5 c6 d0 d1 c3 x0f x0b bv di wf wb ce bx gn t e0;by_cases ef:s.ms.c=i+1;rotate_left
 .refine dg (λw'=>∃p:Regrown,w'=grow (redrawn F p.d) p.os) [1,2,3,4,6,7,8,9,10] [0] [(false,5),(false,11),(false,12),(true,13)] (Qqx (brf.drew)) ?_;simp only[jg]
  repeat(go_big_quiet_step(fail))
  refine Qqz ?_;clear em;refine⟨λj v g wk=>∃B,v = .slice (some ⟨B,0,none⟩) 0 0/\g=[B]/\F.heap.size<=B/\wk.heap[B]?=some (.cells #[] 110 (0,0)),
   Qjx ⟨λv g w w' hB h=>⟨h.choose,h.choose_spec.1,h.choose_spec.2.1,h.choose_spec.2.2.1,(hB.block _ (Qkq h.choose_spec.2.2.2).1).trans h.choose_spec.2.2.2⟩,Qjq _⟩,
   Qjx ⟨λv g w h=>agq,Qjq _⟩,
   Qjx ⟨?zt0,Qjq _⟩,?ztdone⟩
  case zt0 =>
   exact Xk
  case ztdone =>
   intro V G' wk hS hD hA;obtain⟨BV,cs,cr,h1l,bc⟩:∃B,V 0 = .slice (some ⟨B,0,none⟩) 0 0/\G' 0=[B]/\F.heap.size<=B/\wk.heap[B]?=some (.cells #[] 110 (0,0)):=hD 0 vq;have hX:=ae hS;clear hS hD hA cr;simp only[bw,cs];have M:wk.ownsRow F.heap.size 110 4 (.slice (some ⟨BV,0,none⟩) 0 0) 0 []:=⟨rfl,Or.inr ⟨BV,0,#[],rfl,h1l,bc,Nat.le_refl _,Qxz _,rfl,rfl⟩⟩;have ay:Hid (jx wk (some ⟨bm,om,none⟩) s.ms.n s.ms.z/\Bw F wk):=⟨asv,hX⟩;refine bu 5 rfl ?_;refine wpList_append_own wk rfl (.tmp 97) (.tmp 101) 34 rfl F.heap.size 110 iM (.agg #[.int .i64 0,.int .i64 0,.int .i64 0,.int .i64 0]) 4 32 underlying34 hM ca cb cc rfl dc _ 0 [] rfl M ⟨bm,om,none⟩ i _ (ba i s.ms.z) rfl (iz _ _) (λj u hj=>by
    rw[zh];have h:=ay.o.1.flat (q:=0) (m:=i) ow (j:=j) (u:=u) Jv
    simpa using h) (ot _ _) uo ow hX.size ?_
   intro v1 S r1 r2 _;have bd:Bw F S:=hX.grown r2 hX.size (λk e=>Sv);have L:=hid bd;have al:Hid (S.ownsRow F.heap.size 110 4 v1 i (ba i s.ms.z)):=Xf;clear hX r1 r2 M bc h1l ay bd;simp only[Act.put,Qvq,Qwx,Qwz];refine(?_:wpList _ _ _ [] _ _);go_wp2_with fail;refine⟨fw.no (Qqx L.o),?_⟩;refine bu 11 rfl ?_;have ck:Hid (jx S (some ⟨bm,om,none⟩) s.ms.n s.ms.z):=asr;refine wpList_append_own S rfl (.tmp 102) (.tmp 107) 34 rfl F.heap.size 110 iM (.agg #[.int .i64 0,.int .i64 0,.int .i64 0,.int .i64 0]) 4 32 underlying34 hM ca cb cc rfl dc v1 i (ba i s.ms.z) rfl al.o ⟨bm,om+(i+1)*4,none⟩ (s.ms.n-(i+1)) _ (ba (s.ms.n-(i+1)) (λj=>s.ms.z (i+1+j))) rfl (iz _ _) (λj u hj=>by rw[zh];exact ck.o.flat (q:=i+1) (m:=s.ms.n-(i+1)) ow hj) (ot _ _) uo ow L.o.size ?_;intro v2 Q r3 r4 _;have cx:Bw F Q:=L.o.grown r4 L.o.size (λk e=>Fp al.o e);have cd:Q.ownsRow F.heap.size 110 4 v2 (s.ms.n-1) (ba (s.ms.n-1) (gu s.ms.z i)):=by
    rw[Ab s.ms.n s.ms.z i hi];have r3':=r3;rw[show i+(s.ms.n-(i+1))=s.ms.n-1 by omega] at r3';exact r3'
   exact ax6
 refine dg (λw'=>∃p:Regrown,w'=grow (redrawn F p.d) p.os) [1,2,3,4,6,7,8,9,10] [0] [(false,5),(false,11),(false,12),(true,13)] (Qqx (brf.drew)) ?_;simp only[jg]
 repeat(go_big_quiet_step(fail))
 refine Qqz ?_;clear em;have d4:=hid ef;clear ef;refine⟨λj v g wk=>∃B,v = .slice (some ⟨B,0,none⟩) 0 0/\g=[B]/\F.heap.size<=B/\wk.heap[B]?=some (.cells #[] 110 (0,0)),
  Qjx ⟨λv g w w' hB h=>⟨h.choose,h.choose_spec.1,h.choose_spec.2.1,h.choose_spec.2.2.1,(hB.block _ (Qkq h.choose_spec.2.2.2).1).trans h.choose_spec.2.2.2⟩,Qjq _⟩,
  Qjx ⟨λv g w h=>agq,Qjq _⟩,
  Qjx ⟨?zt0,Qjq _⟩,?ztdone⟩
 case zt0 =>
  exact Xk
 case ztdone =>
  intro V G' wk hS hD hA;obtain⟨BV,cs,cr,h1l,bc⟩:∃B,V 0 = .slice (some ⟨B,0,none⟩) 0 0/\G' 0=[B]/\F.heap.size<=B/\wk.heap[B]?=some (.cells #[] 110 (0,0)):=hD 0 vq;have hX:=ae hS;clear hS hD hA cr;simp only[bw,cs];have M:wk.ownsRow F.heap.size 110 4 (.slice (some ⟨BV,0,none⟩) 0 0) 0 []:=⟨rfl,Or.inr ⟨BV,0,#[],rfl,h1l,bc,Nat.le_refl _,Qxz _,rfl,rfl⟩⟩;have ay:Hid (jx wk (some ⟨bm,om,none⟩) s.ms.n s.ms.z/\Bw F wk):=⟨asv,hX⟩;refine bu 5 rfl ?_;refine wpList_append_own wk rfl (.tmp 97) (.tmp 101) 34 rfl F.heap.size 110 iM (.agg #[.int .i64 0,.int .i64 0,.int .i64 0,.int .i64 0]) 4 32 underlying34 hM ca cb cc rfl dc _ 0 [] rfl M ⟨bm,om,none⟩ i _ (ba i s.ms.z) rfl (iz _ _) (λj u hj=>by
   rw[zh];have h:=ay.o.1.flat (q:=0) (m:=i) ow (j:=j) (u:=u) Jv
   simpa using h) (ot _ _) uo ow hX.size ?_
  intro v1 S r1 r2 _;have bd:Bw F S:=hX.grown r2 hX.size (λk e=>Sv);have L:=hid bd;have al:Hid (S.ownsRow F.heap.size 110 4 v1 i (ba i s.ms.z)):=Xf;clear hX r1 r2 M bc h1l ay bd;simp only[Act.put,Qvq,Qwx,Qwz];refine(?_:wpList _ _ _ [] _ _);go_wp2_with fail;refine⟨fw.no (Qqx L.o),?_⟩;refine bu 11 rfl ?_;have ck:Hid (jx S (some ⟨bm,om,none⟩) s.ms.n s.ms.z):=asr;refine wpList_append_own S rfl (.tmp 102) (.tmp 107) 34 rfl F.heap.size 110 iM (.agg #[.int .i64 0,.int .i64 0,.int .i64 0,.int .i64 0]) 4 32 underlying34 hM ca cb cc rfl dc v1 i (ba i s.ms.z) rfl al.o ⟨bm,om,none⟩ _ _ [] rfl (by first|rfl|(have:=d4.o;simp;omega)) (λj u hj=>by cases hj) (λu hu=>by cases hu) uo ow L.o.size ?_;intro v2 Q r3 r4 _;have cx:Bw F Q:=L.o.grown r4 L.o.size (λk e=>Fp al.o e);have cd:Q.ownsRow F.heap.size 110 4 v2 (s.ms.n-1) (ba (s.ms.n-1) (gu s.ms.z i)):=by
   rw[Ab s.ms.n s.ms.z i hi];have hc:=d4.o;have e1:s.ms.n-(i+1)=0:=ow;rw[e1];have e2:s.ms.n-1=i:=ow;exact ao8
  exact ax6
def o5(f:Hd->Bool)(z:Nat->Hd)(n:Nat):Int:=match ld f z n with
 | none => -1
 | some k=>(k:Int)
theorem Vq{f:Hd->Bool}{k:Nat}(h:f (z k)=true):o5 f z (k+1)=(k:Int):=by
 have e:ld f z (k+1)=some k:=if_pos h;unfold o5;rw[e]
theorem Fm{f:Hd->Bool}{k:Nat}(h:f (z k)=false):o5 f z (k+1)=o5 f z k:=by
 have e:ld f z (k+1)=ld f z k:=if_neg aba;unfold o5;rw[e]
theorem Za(s:St)(b g:Nat)(w:World)(hs:s.At w):
  Calls prog 111 #[s.val,.int .i64 (b:Int),.int .i64 (g:Int)] w λe w'=>e = .returned (.int .i64 (o5 (cx b g) s.ms.z s.ms.n))/\Bw w w':=by
 obtain⟨J,E,c,F⟩:∃W,w.alloc (.cells s.cells 36)=W/\Bw w W/\Blk W w.heap.size 36 7 (λj=>s.cells.getD j default):=⟨_,rfl,(Below.refl w.heap.size w).alloc nlr _,Blk.mk' rfl rfl⟩;have HC:Hid (∀a,Bw J a->Blk a w.heap.size 36 7 (λj=>s.cells.getD j default)/\s.At a/\Bw w a):=λa h=>⟨F.below h,(hs.below c).below h,c.trans (h.mono c.size)⟩;unfold St.cells at E;have D:=hid E;have X:=hs.ms.le;have S:=hs.ms.cap;unfold maxLen at S;obtain⟨q,r,t,u,f,v,x,y⟩:=Boxed.of F;rw[<-D.o] at q r t u f v x y;clear E c F hs;unfold St.val;go_enter func111,ntmps111;go_wp2_with fail;rw[D.o];clear D q r t u f v x y
 go_loopw [7] (λG a=>∃i:Nat,i<=s.ms.n/\G = .int .i64 ((i:Int)-1)/\Hid (o5 (cx b g) s.ms.z s.ms.n=o5 (cx b g) s.ms.z i)/\Hid (Bw J a)) (λG _=>(intOf G+1).toNat)
 case atStart=>exact⟨s.ms.n,Nat.le_refl _,rfl,rfl,Below.refl _ _⟩
 obtain⟨i,hi,rfl,HL,HB⟩:=hrel;rcases i with _|k
 .exact amu
 have Y:(0:Int)<=(k:Int):=ow;have Q:k<s.ms.n:=ow;have q3:(k:Int)<(s.ms.n:Int):=ow;have K:(((k+1:Nat):Int)-1)=(k:Int):=ow;rw[K];obtain⟨A,B,hBw⟩:=HC.o wr HB.o;obtain⟨q,r,t,u,f,v,x,y⟩:=Boxed.of A;obtain⟨V,om,d,U,z0,z1,z2,z3⟩:=B.ms.hds k Q;have T:=hid d;rw[d] at f;have m:Hid (cx b g (s.ms.z k)=((s.ms.z k).l==(b:Int)&&(s.ms.z k).o==(g:Int))):=rfl
 generalize hZ:s.ms.z k=Z at *
 have H:=hid hZ;clear d hZ K;cases L:(Z.l==(b:Int))
 .have p:Hid (o5 (cx b g) s.ms.z s.ms.n=o5 (cx b g) s.ms.z k):=by show _=_;rw[HL.o,Fm (by rw[H.o,m.o,L];rfl)]
  exact amg
 cases M:(Z.o==(g:Int))
 .have p:Hid (o5 (cx b g) s.ms.z s.ms.n=o5 (cx b g) s.ms.z k):=by show _=_;rw[HL.o,Fm akv]
  exact amg
 have p:Hid (o5 (cx b g) s.ms.z s.ms.n=(k:Int)):=by show _=_;rw[HL.o,Vq akv]
 clear HL m;go_wp2_with fail;go_ret;exact⟨by rw[p.o];rfl,hBw⟩
theorem Y9(p:Pl)(s:St)(b g:Nat)(w:World)(hs:s.At w)(f:cu p s):
  Calls prog 112 #[s.val,.int .i64 (b:Int),.int .i64 (g:Int)] w λe w'=>e = .returned (.int .i64 (o5 (cg s b g) s.hs.z s.hs.n))/\Bw w w':=by
 have ax:=hid f;have bn:=hs.os.le;have a6:=hs.os.cap;unfold maxLen at a6;clear f;obtain⟨W0,hW,E,hX⟩:∃W,w.alloc (.cells s.cells 36)=W/\Bw w W/\Blk W w.heap.size 36 7 (λj=>s.cells.getD j default):=⟨_,rfl,(Below.refl w.heap.size w).alloc nlr _,Blk.mk' rfl rfl⟩;have HC:Hid (∀D,Bw W0 D->Blk D w.heap.size 36 7 (λj=>s.cells.getD j default)/\s.At D/\Bw w D):=λD h=>⟨hX.below h,(hs.below E).below h,E.trans (h.mono E.size)⟩;unfold St.cells at hW;have HW:=hid hW;have ml:=hs.hs.le;have mc:=hs.hs.cap;unfold maxLen at mc;obtain⟨u,v,c,t,x,y,A,B⟩:=Boxed.of hX;rw[<-HW.o] at u v c t x y A B;clear hW E hX hs;unfold St.val;go_enter func112,ntmps112;go_wp2_with fail;rw[HW.o];clear HW u v c t x y A B
 go_loopw [7] (λiv D=>∃i:Nat,i<=s.hs.n/\iv = .int .i64 ((i:Int)-1)/\Hid (o5 (cg s b g) s.hs.z s.hs.n=o5 (cg s b g) s.hs.z i)/\Hid (Bw W0 D)) (λiv _=>(intOf iv+1).toNat)
 case atStart=>exact⟨s.hs.n,Nat.le_refl _,rfl,rfl,Below.refl _ _⟩
 obtain⟨i,hi,rfl,HL,HB⟩:=hrel;rcases i with _|k
 .exact amu
 have q1:(0:Int)<=(k:Int):=ow;have hk:k<s.hs.n:=ow;have q3:(k:Int)<(s.hs.n:Int):=ow;have e1:(((k+1:Nat):Int)-1)=(k:Int):=ow;rw[e1];obtain⟨a1,L,a3⟩:=je (ax.o.home k hk);obtain⟨o,ho⟩:=Qzz a1.1;obtain⟨l,hl⟩:=Qzz L.1;rw[ho] at a1 L;rw[hl] at L;have on:o<s.os.n:=a1.2;have ln:l<(s.os.z o).ls.n:=L.2;have J:Hid (cg s b g (s.hs.z k)=((s.hs.z k).b==(b:Int)&&((s.os.z o).ls.z l).o==(g:Int))):=by
  show cg s b g (s.hs.z k)=_;unfold cg kf;rw[ho,hl]
  rfl
 obtain⟨m,q,-⟩:=HC.o wr HB.o;obtain⟨bm,om,an,a4,v0,v1,v2,v3⟩:=q.hs.hds k hk;rw[ho] at v0;rw[hl] at v1
 generalize (s.hs.z k).b=ZB at *
 generalize (s.hs.z k).n=ZN at *
 obtain⟨K,aj,M,G⟩:∃W,wr.alloc (.cells #[.int .i64 (o:Int),.int .i64 (l:Int),.int .i64 ZB,.int .i64 ZN] 107)=W/\Bw wr W/\Blk W wr.heap.size 107 4 (λj=>(#[.int .i64 (o:Int),.int .i64 (l:Int),.int .i64 ZB,.int .i64 ZN]:Array Value).getD j default):=⟨_,rfl,brf.alloc nlr _,Blk.mk' rfl rfl⟩;have ai:=hid aj;have a:=hid (HB.o.trans (M.mono HB.o.size));have yl:=G.lt;have y0:K.cell? ⟨wr.heap.size,0,none⟩=some (.int .i64 (o:Int)):=G.k 0;have y1:K.cell? ⟨wr.heap.size,1,none⟩=some (.int .i64 (l:Int)):=G.k 1;have y2:K.cell? ⟨wr.heap.size,2,none⟩=some (.int .i64 ZB):=G.k 2;have y3:K.cell? ⟨wr.heap.size,3,none⟩=some (.int .i64 ZN):=G.k 3;obtain⟨u,v,c,t,x,y,A,B⟩:=Boxed.of m;rw[an] at t;clear a1 L a3 ho hl aj M G m q an e1;go_wp2_with fail;rw[ai.o];clear ai u v c t x y A B a4 v0 v1 v2 v3;obtain⟨m,q,-⟩:=HC.o K a.o;obtain⟨u,v,c,t,x,y,A,B⟩:=Boxed.of m;obtain⟨bo,oo,ao,al,z0,Y,F⟩:=q.os.ods o on;obtain⟨bl,ol,am,ak,w0,w1,w2,w3⟩:=F.hds l ln;have ll:=F.le;have lc:=F.cap;unfold maxLen at lc;rw[ao] at c;rw[am] at Y;have s0:(0:Int)<=(o:Int):=ow;have s1:(o:Int)<(s.os.n:Int):=ow;have s2:(0:Int)<=(l:Int):=ow;have s3:(l:Int)<((s.os.z o).ls.n:Int):=ow;clear m q ao am F HB
 generalize ((s.os.z o).ls.z l).o=ZO at *
 cases h1:(ZB==(b:Int))
 .have HN:Hid (o5 (cg s b g) s.hs.z s.hs.n=o5 (cg s b g) s.hs.z k):=by show _=_;rw[HL.o,Fm (by rw[J.o,h1];rfl)]
  exact at6
 cases h2:(ZO==(g:Int))
 .have HN:Hid (o5 (cg s b g) s.hs.z s.hs.n=o5 (cg s b g) s.hs.z k):=by show _=_;rw[HL.o,Fm (by rw[J.o,h1,h2];rfl)]
  exact at6
 have HN:Hid (o5 (cg s b g) s.hs.z s.hs.n=(k:Int)):=by show _=_;rw[HL.o,Vq (by rw[J.o,h1,h2];rfl)]
 clear HL J;have Q:=Qqq c;have T:=Qqq y0;have U:=Qqq y1;have V:=Qqq y2;have X:=Qqq Y;have S:=Qqq w0;refine Qxq ko ko ?_
 repeat(go_big_quiet_step(fail))
 refine Qqz ?_;intro w4 r;have d:=ae r;have H:=hid (a.o.trans (d.mono a.o.size));clear r d Q T U V X S a u v c t x y A B y0 y1 y2 y3 yl al z0 Y ak w0 w1 w2 w3;go_wp2_with fail;go_ret;exact⟨by rw[HN.o];rfl,(HC.o _ H.o).2.2⟩
end Go.Proofs.YtjgckphgagdpaaaGreatDoor
namespace Go.Proofs.YtjgckphgagdpaaaGreatDoor
open _root_.Go.Proofs.Tryz
open Go.RowKit Go.MapKept Go.ChangeMaps
def po(o l:Nat):Value := .agg #[.int .i64 (o:Int),.int .i64 (l:Int)]
theorem Zh{o l b a:Nat}(h:po o l=po b a):o=b/\l=a:=by
 unfold po at h;simp only[Value.agg.injEq] at h;have c:(#[.int .i64 (o:Int),.int .i64 (l:Int)]:Array Value)[0]?=(#[.int .i64 (b:Int),.int .i64 (a:Int)]:Array Value)[0]?:=by rw[h]
 have d:(#[.int .i64 (o:Int),.int .i64 (l:Int)]:Array Value)[1]?=(#[.int .i64 (b:Int),.int .i64 (a:Int)]:Array Value)[1]?:=by rw[h]
 simp at c d;omega
theorem Dd:WideMaps.KeyLaw prog 225 :=
 deep_law_gate (show laidOutB prog=true by kernel_rfl) (of_decide_eq_true ko) (of_decide_eq_true ko) ko ko
theorem aq9:((List.range 4).all λo=>(List.range 3).all λl=>(keyOf prog 225 (po o l)).isSome)=true:=ko
theorem Ud{o l:Nat}(b:o<4)(a:l<3):∃k,keyOf prog 225 (po o l)=some k :=
 Option.isSome_iff_exists.1 (List.all_eq_true.1 (List.all_eq_true.1 aq9 o (List.mem_range.2 b)) l (List.mem_range.2 a))
theorem H6:prog.underlying 183=some (.map 225 3):=ko
def lx(w:World)(r:Nat)(q:Int->Int->Int):Prop:=∃es clock,w.heap[r]?=some (.map es clock)/\Stamped es clock/\(∀x,x∈es.toList->∃o l:Nat,o<4/\l<3/\x.key=po o l/\x.val = .int .i64 (q o l))/\∀o l:Nat,o<4->l<3->(∀x,x∈es.toList->x.key≠po o l)->q o l=0
theorem lx.lt{w:World}{r:Nat}{q:Int->Int->Int}(h:lx w r q):r<w.heap.size:=by
 obtain⟨b,c,a,-⟩:=h;exact(Qkq a).1
theorem lx.same{w w':World}{r:Nat}{q:Int->Int->Int}(h:lx w r q)(e:w'.heap[r]?=w.heap[r]?):lx w' r q:=by
 obtain⟨a,c,b,d⟩:=h;exact⟨a,c,e.trans b,d⟩
theorem lx.below{w w':World}{r:Nat}{q:Int->Int->Int}(h:lx w r q)(a:Bw w w'):lx w' r q:=h.same (a.block r h.lt)
theorem lx.set{w:World}{r:Nat}{q:Int->Int->Int}(h:lx w r q){g j:Nat}(a:r≠g)(u:Value):lx (w.setCell ⟨g,j,none⟩ u) r q:=h.same (Below.heap_setCell w ⟨g,j,none⟩ u r a)
theorem lx.new(w:World):lx (w.alloc (.map #[] 0)) w.heap.size (λ_ _=>0):=by
 refine⟨#[],0,(heap_alloc w _).1,stamped_empty 0,λx hx=>qm,λ_ _ _ _ _=>rfl⟩
theorem lx.congr{w:World}{r:Nat}{q d:Int->Int->Int}(h:lx w r q)(e:∀o l:Nat,o<4->l<3->d o l=q o l):lx w r d:=by
 obtain⟨f,c,g,i,j,k⟩:=h;refine⟨f,c,g,i,λx hx => ?_,λo l b a n=>by rw[e o l b a];exact k o l b a n⟩;obtain⟨o,l,b,a,m,p⟩:=j x hx;exact⟨o,l,b,a,m,by rw[e o l b a];exact p⟩
theorem lx.keys{a:Array MapEntry}{q:Int->Int->Int}(b:∀x,x∈a.toList->∃o l:Nat,o<4/\l<3/\x.key=po o l/\x.val = .int .i64 (q o l)):∀e∈a.toList,∃l,keyOf prog 225 e.key=some l:=λe c=>by
 obtain⟨o,l,g,f,d,-⟩:=b e c;rw[d];exact Ud g f
theorem Zd{w:World}{r:Nat}{q:Int->Int->Int}(h:lx w r q){o l:Nat}(n:o<4)(m:l<3):(Instr.lookup 183 (.map (some r)) (po o l) false).run prog w = .ok (.int .i64 (q o l)) w:=by
 obtain⟨p,c,g,v,i,t⟩:=h;obtain⟨k,f⟩:=Ud n m;rcases Dd.find w f p.toList (lx.keys i) with⟨b,d⟩|⟨j,e,b,d,f3⟩
 .have s:=t o l n m d;simp[Instr.lookup,run_underlying H6,MapKept.run_getObj_map g,Dd.check w _ f,b,Result.andThen,s]
 obtain⟨y,x,-,-,a,u⟩:=i e (List.mem_of_getElem? d);rw[f3] at a;obtain⟨rfl,rfl⟩:=Zh a;simp[Instr.lookup,run_underlying H6,MapKept.run_getObj_map g,Dd.check w _ f,b,Result.andThen,u]
def uc(q:Int->Int->Int)(o l:Nat)(v:Int)(a b:Int):Int:=if a=o/\b=l then v else q a b
structure ta(r:Nat)(w w':World):Prop where
 os:w'.os=w.os
 tape:w'.tape=w.tape
 output:w'.output=w.output
 size:w'.heap.size=w.heap.size
 block:∀k,k≠r->w'.heap[k]?=w.heap[k]?
theorem zr{w:World}{r:Nat}{x:Obj}(o:Obj)(h:w.heap[r]?=some x):ta r w (setBlock w r o):=⟨rfl,rfl,rfl,by simp[setBlock],(heap_set h).2⟩
theorem ta.trans{r:Nat}{a b c:World}(h:ta r a b)(k:ta r b c):ta r a c:=⟨k.os.trans h.os,k.tape.trans h.tape,k.output.trans h.output,k.size.trans h.size,λq d=>(k.block q d).trans (h.block q d)⟩
theorem ta.below{A r:Nat}{a b c:World}(k:ta r b c)(h:Below A a b)(e:A<=r):Below A a c:=⟨k.os.trans h.os,k.tape.trans h.tape,k.output.trans h.output,by rw[k.size];exact h.size,λq d=>(k.block q ow).trans (h.block q d)⟩
theorem ajc{w:World}{r:Nat}{q:Int->Int->Int}(h:lx w r q){o l:Nat}(J:o<4)(H:l<3):
  ∃(v0:Value) (st:Nat) (w1:World),(Instr.mapEntry 183 (.map (some r)) (po o l)).run prog w = .ok (.tuple #[v0,goInt st]) w1/\ta r w w1/\lx w1 r q /\
   ∀v:Int,∃w2,(Instr.entryStore 183 (.map (some r)) (goInt st) (.int .i64 v)).run prog w1 = .ok () w2/\lx w2 r (uc q o l v)/\ta r w w2:=by
 obtain⟨d,c,m,h2,B,E⟩:=h;obtain⟨k,K⟩:=Ud J H;obtain⟨s1,D,z⟩:=h2;have ah:=(Qkq m).1;rcases Dd.find w K d.toList (lx.keys B) with⟨T,g⟩|⟨j,e,T,g,f3⟩
 .refine⟨.int .i64 0,c,setBlock w r (.map (d.push ⟨po o l,.int .i64 0,c⟩) (c+1)),?_,zr _ m,⟨_,_,(heap_set m).1,stamped_push ⟨s1,D,z⟩ g,λx hx => ?_,λa b s t y=>E a b s t λx hx=>y x akq⟩,λv => ?_⟩
  .simp[Instr.mapEntry,run_underlying H6,MapKept.run_getObj_map m,Dd.check w false K,T,MapKept.run_setObj_map _ m,Result.andThen,setBlock]
  .rw[Array.toList_push,List.mem_append,List.mem_singleton] at hx;rcases hx with hx|rfl
   .exact B x hx
   exact⟨o,l,J,H,rfl,by rw[E o l J H g]⟩
  have f:(setBlock w r (.map (d.push ⟨po o l,.int .i64 0,c⟩) (c+1))).heap[r]?=some (.map (d.push ⟨po o l,.int .i64 0,c⟩) (c+1)):=(heap_set m).1;have ac:Stamped (d.push ⟨po o l,.int .i64 0,c⟩) (c+1):=stamped_push ⟨s1,D,z⟩ g;have u:(d.push ⟨po o l,.int .i64 0,c⟩).findIdx? (λe=>((e.born:Nat):Int)==((c:Nat):Int))=some d.size:=by
   rw[WideElems.findIdx_arr];exact WideElems.findIdx_born (l:=(d.push ⟨po o l,.int .i64 0,c⟩).toList) (j:=d.size) (e0:=⟨po o l,.int .i64 0,c⟩) ac.2.1 vq
  have V:(d.push ⟨po o l,.int .i64 0,c⟩).modify d.size (λe=>{ e with val := .int .i64 v })=d.push ⟨po o l,.int .i64 v,c⟩:=by
   apply Array.ext'
   rw[Array.toList_modify,Array.toList_push,Array.toList_push,<-Array.length_toList,WideElems.modify_last]
  refine⟨setBlock (setBlock w r (.map (d.push ⟨po o l,.int .i64 0,c⟩) (c+1))) r (.map (d.push ⟨po o l,.int .i64 v,c⟩) (c+1)),?_,⟨_,_,(heap_set f).1,stamped_push ⟨s1,D,z⟩ g,λx hx => ?_,λa b s t y => ?_⟩,(zr _ m).trans (zr _ f)⟩
  .generalize setBlock w r (.map (d.push ⟨po o l,.int .i64 0,c⟩) (c+1))=W1 at f ⊢
   simp[Instr.entryStore,MapKept.run_getObj_map f,asInt,asIntOf,goInt,u,V,MapKept.run_setObj_map _ f,Result.andThen,setBlock]
  .rw[Array.toList_push,List.mem_append,List.mem_singleton] at hx;rcases hx with hx|rfl
   .obtain⟨a,b,s,t,G,W⟩:=B x hx;refine⟨a,b,s,t,G,?_⟩;have:¬((a:Int)=o/\(b:Int)=l):=λe=>g x hx (by rw[G,show a=o by omega,show b=l by omega]);rw[W];unfold uc;rw[if_neg this]
   refine⟨o,l,J,H,rfl,?_⟩;unfold uc;rw[if_pos ⟨rfl,rfl⟩]
  have p:¬((a:Int)=o/\(b:Int)=l):=λe=>y ⟨po o l,.int .i64 v,c⟩ (by rw[Array.toList_push];simp) (by show po o l=po a b;rw[show a=o by omega,show b=l by omega]);unfold uc;rw[if_neg p];exact E a b s t λx hx=>y x akq
 have hj:d[j]?=some e:=by simpa using g
 have L:d.modify j (λe=>{ e with key:=po o l })=d:=by
  apply Array.ext'
  rw[Array.toList_modify,ChangeMaps.modify_eq_set _ _ _ _ g];have:({ e with key:=po o l }:MapEntry)=e:=by rw[<-f3]
  rw[this];exact WideElems.set_self _ _ _ g
 have f:(setBlock w r (.map d c)).heap[r]?=some (.map d c):=(heap_set m).1;refine⟨e.val,e.born,setBlock w r (.map d c),?_,zr _ m,⟨d,c,f,⟨s1,D,z⟩,B,E⟩,λv => ?_⟩
 .simp[Instr.mapEntry,run_underlying H6,MapKept.run_getObj_map m,Dd.check w false K,T,hj,f3,Dd.stays w K,L,MapKept.run_setObj_map _ m,Result.andThen,setBlock]
 have u:d.findIdx? (λx=>((x.born:Nat):Int)==((e.born:Nat):Int))=some j:=by
  rw[WideElems.findIdx_arr];exact WideElems.findIdx_born D g
 have X:(d.modify j (λe=>{ e with val := .int .i64 v })).toList=d.toList.set j { e with val := .int .i64 v }:=by
  rw[Array.toList_modify,ChangeMaps.modify_eq_set _ _ _ _ g]
 have ab:∀x,x∈(d.modify j (λe=>{ e with val := .int .i64 v })).toList->x={ e with val := .int .i64 v }\/x∈d.toList/\x.key≠po o l:=λx hx=>by
  rw[X] at hx;obtain⟨i,hi,hx⟩:=List.mem_iff_getElem.1 hx;rw[List.getElem_set] at hx;by_cases n:j=i
  .rw[if_pos n] at hx;exact Or.inl hx.symm
  rw[if_neg n] at hx;have F:i<d.toList.length:=by rw[List.length_set] at hi;exact hi
  have M:j<d.toList.length:=(List.getElem?_eq_some_iff.1 g).1;refine Or.inr ⟨by rw[<-hx];exact List.getElem_mem F,λA => ?_⟩;have Y:d.toList[j]=e:=(List.getElem?_eq_some_iff.1 g).2;rcases Nat.lt_or_gt_of_ne n with U|U
  .exact(List.pairwise_iff_getElem.1 (List.pairwise_map.1 z)) j i M F U (by rw[Y,f3,hx,A])
  exact(List.pairwise_iff_getElem.1 (List.pairwise_map.1 z)) i j F M U (by rw[Y,f3,hx,A])
 obtain⟨o',l',-,-,G,ai⟩:=B e (List.mem_of_getElem? g);have aa:({ e with val := .int .i64 v }:MapEntry)∈(d.modify j (λe=>{ e with val := .int .i64 v })).toList:=by
  rw[X];exact List.mem_iff_getElem.2 ⟨j,by rw[List.length_set];exact(List.getElem?_eq_some_iff.1 g).1,vq⟩
 refine⟨setBlock (setBlock w r (.map d c)) r (.map (d.modify j (λe=>{ e with val := .int .i64 v })) c),?_,⟨_,_,(heap_set f).1,stamped_modify ⟨s1,D,z⟩ j _ (λ_ _=>rfl) (λ_ _ _=>rfl),λx hx => ?_,λa b s t y => ?_⟩,(zr _ m).trans (zr _ f)⟩
 .generalize setBlock w r (.map d c)=W1 at f ⊢
  simp[Instr.entryStore,MapKept.run_getObj_map f,asInt,asIntOf,goInt,u,MapKept.run_setObj_map _ f,Result.andThen,setBlock]
 .rcases ab x hx with rfl|⟨hx,p⟩
  .refine⟨o,l,J,H,f3,?_⟩;unfold uc;rw[if_pos ⟨rfl,rfl⟩]
  obtain⟨a,b,s,t,Q,W⟩:=B x hx;refine⟨a,b,s,t,Q,?_⟩;have:¬((a:Int)=o/\(b:Int)=l):=λe=>p (by rw[Q,show a=o by omega,show b=l by omega]);rw[W];unfold uc;rw[if_neg this]
 have p:¬((a:Int)=o/\(b:Int)=l):=λe'=>y _ aa (by show e.key=_;rw[f3,show a=o by omega,show b=l by omega]);unfold uc;rw[if_neg p];refine E a b s t λx hx A => ?_;obtain⟨i,hi,S⟩:=List.mem_iff_getElem.1 hx;by_cases n:j=i
 .subst n;have:x=e:=by rw[<-S];exact(List.getElem?_eq_some_iff.1 g).2
  rw[this,f3] at A;obtain⟨rfl,rfl⟩:=Zh A;exact p ⟨rfl,rfl⟩
 exact y x (by
  rw[X];exact List.mem_iff_getElem.2 ⟨i,by rw[List.length_set];exact hi,by rw[List.getElem_set_ne n];exact S⟩) A
end Go.Proofs.YtjgckphgagdpaaaGreatDoor
namespace Go.Proofs.YtjgckphgagdpaaaGreatDoor
variable{n b A g l c i m q r j R C M u:Nat}{P:Prop}{w a w' d X:World}{s x y:St}{W J K D:Int}{e t:TypeId}{p:Pl}{z H:Nat->Hd}{f O:Nat->Value}{Q:Exit->Act->World->Prop}{v U:Value}{V Y:Hs}{Z E:Int->Int->Int}{h:Hd}{xs:List Value}{S:World->Prop}{z' zs:Nat->Int}{a1:Act}
open _root_.Go.Proofs.Tryz
open Go.RowKit Go.Shelf Go.Sort
def qs(g:Nat)(w w':World):Prop:=iy g w w'/\∀(cur:Array Value) (e:TypeId),w.heap[g]?=some (.cells cur e (0,0))->∃cur',w'.heap[g]?=some (.cells cur' e (0,0))/\cur'.size=cur.size
theorem qs.refl(g:Nat)(w:World):qs g w w:=⟨iy.refl g w,λcur e h=>⟨cur,h,rfl⟩⟩
theorem qs.below{c:World}(h:qs g w d)(b:Bw d c):qs g w c:=⟨h.1.below b,λcur e hc=>by
 obtain⟨f,a,i⟩:=h.2 cur e hc;exact⟨f,(b.block g (Qkq a).1).trans a,i⟩⟩
theorem qs.cells(b:List Value)(o:Nat)(a:World)(h:qs g w a):qs g w (a.setCells g o b):=⟨iy.cells b o a h.1,λcur e hc=>by
 obtain⟨c,d,f⟩:=h.2 cur e hc;obtain⟨c2,i,j⟩:=J9 (m:=cur.size) b o a ⟨c,d,f⟩;exact⟨c2,i,j⟩⟩
theorem qs.set(h:qs g w a)(j:Nat)(u:Value):qs g w (a.setCell ⟨g,j,none⟩ u):=qs.cells [u] j a h
theorem qs.set4(h:qs g w a)(i:Nat)(x:Hd):qs g w (Go.Proofs.YtjgckphgagdpaaaGreatDoor.set4 a g i x):=an7
theorem asa(f:Nat)(caps:Array Value)(bad:Hd->Bool)(A:Nat)(a:Option Addr)(n c:Nat)(w:World)(hA:A<=w.heap.size)(g:n<=c)(hc:c<=maxLen)(z:Nat->Hd)(hz:jx w a n z)
  (d:∀args w,(callFunc f args).run prog w = .ok (.enter f args) w)
  (hf:Hid (∀(x:Hd) w1,Below A w w1->Calls prog f (#[x.val]++caps) w1 λe w'=>e = .returned (.bool (bad x))/\Bw w1 w')) :
  Calls prog 227 #[.slice a n c,.func (.func f) #[] caps] w λe w'=>((e = .returned (.int .i64 (-1))/\∀j,j<n->bad (z j)=false)\/∃k,k<n/\e = .returned (.int .i64 (k:Nat))/\bad (z k)=true/\∀j,j<k->bad (z j)=false)/\Bw w w':=by
 unfold maxLen at hc;go_enter func227,ntmps227;exact aya
def Oe(g:Nat)(bad:Hd->Bool)(xs:List Hd)(k:Nat)(wk:World):Prop:=∃c:Nat->Hd,Blk wk g 110 (xs.length*4) (hc c)/\(∀q,q<(jw bad xs k).length->c q=(jw bad xs k).getD q hd0)/\∀q,k<=q->q<xs.length->c q=xs.getD q hd0
theorem ahk(f:Nat)(caps:Array Value)(bad:Hd->Bool)(A g cap:Nat)(xs:List Hd)(w:World)(hA:A<=g)(u:A<=w.heap.size)(hn:xs.length<=cap)(F:cap<=maxLen)(U:Blk w g 110 (xs.length*4) (hc λj=>xs.getD j hd0))
  (eg:∀args w,(callFunc f args).run prog w = .ok (.enter f args) w)
  (hf:Hid (∀(x:Hd) w1,Below A w w1->Calls prog f (#[x.val]++caps) w1 λe w'=>e = .returned (.bool (bad x))/\Bw w1 w')) :
  Calls prog 193 #[.slice (some ⟨g,0,none⟩) xs.length cap,.func (.func f) #[] caps] w λe w'=>e = .returned (.slice (some ⟨g,0,none⟩) (xs.filter (λx => !bad x)).length cap)/\Blk w' g 110 ((xs.filter (λx => !bad x)).length*4) (hc λj=>(xs.filter (λx => !bad x)).getD j hd0)/\Below A w w'/\qs g w w':=by
 have M:=F;unfold maxLen at F;have D:=hid U;have hz:jx w (some ⟨g,0,none⟩) xs.length (λj=>xs.getD j hd0):=U.hds;clear U;go_enter func193,ntmps193;go_wp2_with fail;refine(asa f caps bad A _ _ _ w u hn M _ hz eg hf).mono ?_;rintro e w1 ⟨h,d⟩;clear hz;have E:=d.mono u;rcases h with⟨rfl,hno⟩|⟨B,hk0,rfl,hbad,hno⟩
 .have G:xs.filter (λx => !bad x)=xs:=anh;have HF:=hid G;clear G hno;go_wp2_with fail;go_ret;rw[HF.o];exact⟨rfl,D.o.below d,E,(qs.refl g w).below d⟩
 have hs0:jw bad xs (B+1)=xs.take B:=asx;have H:(jw bad xs (B+1)).length=B:=Z4;have H0:Hid (Oe g bad xs (B+1) w1):=⟨_,D.o.below d,λq hq=>by
  rw[H] at hq;rw[hs0];simp only[List.getD,List.getElem?_take,if_pos hq],λq _ _=>rfl⟩
 have HL0:=hid H;clear hs0 H hbad hno D;go_wp2_with fail
 go_loopw [5,6] (λi j Y=>∃k:Nat,k<=xs.length/\j = .int .i64 k/\i = .int .i64 ((jw bad xs k).length:Nat)/\(jw bad xs k).length<k/\Hid (Oe g bad xs k Y)/\Below A w Y/\Hid (qs g w Y)) (λ_ j _=>xs.length-(intOf j).toNat)
 case atStart=>exact⟨B+1,ow,vo,by rw[HL0.o],aau,H0,E,(qs.refl g w).below d⟩
 clear H0 HL0 E d;obtain⟨k,hk,rfl,rfl,m,K,L,HKG⟩:=hrel;by_cases J:k<xs.length;rotate_left
 .have af:k=xs.length:=ow;subst af;obtain⟨c,hc1,hc2,s⟩:=K.o;rw[Nr] at m hc2 ⊢;obtain⟨I,t⟩:∃I,(xs.filter (λx => !bad x)).length=I:=⟨_,rfl⟩;have HI:=hid t;rw[t] at m hc2 ⊢;clear t;obtain⟨N,S⟩:∃N,xs.length=N:=⟨_,rfl⟩;have ax:=hid S;rw[S] at m hn hc1 ⊢;clear S s J hk K;have ay:¬cap=I:=ow;have az:∀V,(Builtin.clear_ #[34] V #[.slice (some ⟨g,I*4,none⟩) (N-I) (cap-I)]).run prog wr = .ok (.tuple #[]) (wr.setCells g (I*4) (List.replicate ((N-I)*4) (.int .i64 0))):=λV =>
   Pq wr V g (I*4) (N-I) (cap-I) ow (λj hj=>aab) (λj _=>hc1.frozen _)
  have HEND:Hid (Blk (wr.setCells g (I*4) (List.replicate ((N-I)*4) (.int .i64 0))) g 110 (I*4) (hc λj=>(xs.filter (λx => !bad x)).getD j hd0)/\Below A w (wr.setCells g (I*4) (List.replicate ((N-I)*4) (.int .i64 0)))/\qs g w (wr.setCells g (I*4) (List.replicate ((N-I)*4) (.int .i64 0)))):=
   ⟨Blk.setCells _ _ _ ((hc1.less ow).congr λj hj=>aj3) nlr,Aw hA _ _ _ L,HKG.o.cells _ _ _⟩
  exact aby
 obtain⟨c,hc1,hc2,s⟩:=K.o;have HB:=qa3 hc1 hc2 s;have HS:Hid (jw bad xs (k+1)=jw bad xs k++if bad (xs.getD k hd0) then [] else [xs.getD k hd0]):=Fu J;obtain⟨X,T⟩:∃X,xs.getD k hd0=X:=⟨_,rfl⟩;have HXE:=hid T;have Q:c k=X:=by rw[s k nlr J,T]
 have z:=Wy c k;rw[Q] at z;have z0:wr.cell? ⟨g,k*4,none⟩=some (.int .i64 X.o):=(hc1.cell ow).trans (by rw[z.1]);have z1:wr.cell? ⟨g,k*4+1,none⟩=some (.int .i64 X.l):=(hc1.cell ow).trans (by rw[z.2.1]);have z2:wr.cell? ⟨g,k*4+2,none⟩=some (.int .i64 X.b):=(hc1.cell ow).trans (by rw[z.2.2.1]);have z3:wr.cell? ⟨g,k*4+3,none⟩=some (.int .i64 X.n):=(hc1.cell ow).trans (by rw[z.2.2.2]);have zl:=hc1.lt;clear hc1 hc2 s K T Q z;obtain⟨I,t⟩:∃I,(jw bad xs k).length=I:=⟨_,rfl⟩;have HIE:=hid t;rw[t] at m ⊢;clear t;obtain⟨W,hW,y,KX⟩:∃W,wr.alloc (.cells #[.int .i64 X.o,.int .i64 X.l,.int .i64 X.b,.int .i64 X.n] 110)=W/\Bw wr W/\Blk W wr.heap.size 110 4 (λj=>(#[.int .i64 X.o,.int .i64 X.l,.int .i64 X.b,.int .i64 X.n]:Array Value).getD j default):=⟨_,rfl,brf.alloc nlr _,Blk.mk' rfl rfl⟩;have HW:=hid hW;have v:=L.trans (y.mono (Qzx u L.size));have HB:Hid (Blk W g 110 (xs.length*4) (hc c)/\(∀q,q<(jw bad xs k).length->c q=(jw bad xs k).getD q hd0)/\∀q,k<=q->q<xs.length->c q=xs.getD q hd0):=⟨HB.o.1.below y,HB.o.2⟩;have HKG:Hid (qs g w W):=HKG.o.below y;clear hW y;go_wp2_with fail;rw[HW.o];refine(hf.o X W v).mono ?_;rintro e p ⟨rfl,r⟩;have hB3:=v.trans (r.mono (Qzx u v.size));have HKG:Hid (qs g w p):=HKG.o.below r;have kb:=HB.o.1.below r;have a:=KX.below r;have xl:=a.lt;have x0:p.cell? ⟨wr.heap.size,0,none⟩=some (.int .i64 X.o):=a.k 0;have x1:p.cell? ⟨wr.heap.size,1,none⟩=some (.int .i64 X.l):=a.k 1;have x2:p.cell? ⟨wr.heap.size,2,none⟩=some (.int .i64 X.b):=a.k 2;have x3:p.cell? ⟨wr.heap.size,3,none⟩=some (.int .i64 X.n):=a.k 3;clear z0 z1 z2 z3 zl KX a HW L v r
 generalize wr.heap.size=BX at *
 cases hbd:bad X;rotate_left
 .have HN:Hid (Oe g bad xs (k+1) p/\(jw bad xs (k+1)).length=I):=al3;exact avd
 have y0:=kb.cell (j:=I*4) ow;have y1:=kb.cell (j:=I*4+1) ow;have y2:=kb.cell (j:=I*4+2) ow;have y3:=kb.cell (j:=I*4+3) ow;have f0:=kb.frozen (I*4);have f1:=kb.frozen (I*4+1);have f2:=kb.frozen (I*4+2);have f3:=kb.frozen (I*4+3);have yl:=kb.lt
 generalize hc c (I*4)=V0 at y0
 generalize hc c (I*4+1)=V1 at y1
 generalize hc c (I*4+2)=V2 at y2
 generalize hc c (I*4+3)=V3 at y3
 have KB:=kb.set4 I X;have HN:Hid (Oe g bad xs (k+1) (set4 p g I X)/\Below A w (set4 p g I X)/\(jw bad xs (k+1)).length=I+1/\qs g w (set4 p g I X)):=at2;exact au2
theorem ahl(f:Nat)(caps:Array Value)(bad:Hd->Bool)(a:Option Addr)(cap:Nat)(w:World)(b:cap<=maxLen)
  (d:∀args w,(callFunc f args).run prog w = .ok (.enter f args) w)
  (g:Hid (∀(x:Hd) w1,Bw w w1->Calls prog f (#[x.val]++caps) w1 λe w'=>e = .returned (.bool (bad x))/\Bw w1 w')) :
  Calls prog 193 #[.slice a (0:Nat) cap,.func (.func f) #[] caps] w λe w'=>e = .returned (.slice a (0:Nat) cap)/\Bw w w':=by
 have c:=b;unfold maxLen at b;go_enter func193,ntmps193;go_wp2_with fail;refine(asa f caps bad w.heap.size a 0 cap w nlr (Qxz _) c (λ_=>hd0) (λi hi=>absurd hi (Qzq _)) d g).mono ?_;exact amf
theorem Vm(a:Bw w w'):KeepsOthers w w':=⟨a.size,λk o b _=>(a.block k (Qkq b).1).trans b⟩
theorem Vn(d:Blk w g t n f)(b:iy g w w'):KeepsOthers w w':=⟨b.1,λk o a h=>(b.2 k (Qkq a).1 λe=>by
 obtain⟨cur,c,_⟩:=d;rw[e,c] at a;cases a;cases h).trans a⟩
theorem ahm(f:Nat)(caps:Array Value)(bad:Hd->Bool)(A:Nat)(s:St)(w:World)(i:A<=w.heap.size)(p:ah A w s)
  (r:∀args w,(callFunc f args).run prog w = .ok (.enter f args) w)
  (B:∀(x:Hd) w1,Below A w w1->Calls prog f (#[x.val]++caps) w1 λe w'=>e = .returned (.bool (bad x))/\Bw w1 w') :
  Calls prog 135 #[.slice s.hs.a s.hs.n s.hs.c,.func (.func f) #[] caps] w λe w'=>e = .returned (.slice (eu s.hs bad).a (eu s.hs bad).n (eu s.hs bad).c)/\ah A w' (withHolds s (eu s.hs bad))/\Below A w w'/\(∀q t m g,t≠107->Blk w q t m g->Blk w' q t m g)/\KeepsOthers w w':=by
 obtain⟨h1,k,u,E⟩:=p.hs;by_cases G:s.hs.n=0
 .have hd:(eu s.hs bad).n=0:=aku;rw[G,hd];refine(Xq f caps bad s.hs.a s.hs.c w k r (λx w1 b=>B x w1 (b.mono i))).mono ?_;rintro e w1 ⟨rfl,b⟩;exact⟨rfl,(p.below b).withHolds ⟨alg,k,u,λh=>absurd h ow⟩,b.mono i,λq t m g _ hb=>hb.below b,Vm b⟩
 obtain⟨g,ha,hA,hb⟩:=E ow;have d:Blk w g 107 ((i6 s.hs).length*4) (hc λj=>(i6 s.hs).getD j hd0):=abs;have v:=Xp f caps bad A g s.hs.c (i6 s.hs) w hA i aaj k d r B;rw[uk] at v;rw[ha];refine v.mono ?_;rintro e w1 ⟨rfl,y,b,o⟩;have F:=C7 s.hs bad;exact⟨asw,p.keepG d o ⟨Qzx F h1,k,u,λ_=>⟨g,ha,hA,y.congr λq hq=>(Cb (z:=(eu s.hs bad).z) hq).symm⟩⟩,b,λq t m H D l=>o.blk l (Blk.ne2 l d D),Vn d o⟩
theorem gp.keepMv{a:Option Addr}(h:gp A w 110 4 a c)(K:qs g w w'):gp A w' 110 4 a c:=by
 rcases h with j|⟨q,cur,i,hA,b,d⟩
 .exact Or.inl j
 by_cases e:q=g
 .subst e;obtain⟨f,k,l⟩:=K.2 cur _ b;exact Or.inr ⟨q,f,i,hA,k,by rw[l];exact d⟩
 exact Or.inr ⟨q,cur,i,hA,(K.1.2 q (Qkq b).1 e).trans b,d⟩
theorem ahn(f:Nat)(caps:Array Value)(bad:Hd->Bool)(A:Nat)(s:St)(w:World)(i:A<=w.heap.size)(o:ah A w s)
  (u:∀args w,(callFunc f args).run prog w = .ok (.enter f args) w)
  (D:∀(x:Hd) w1,Below A w w1->Calls prog f (#[x.val]++caps) w1 λe w'=>e = .returned (.bool (bad x))/\Bw w1 w') :
  Calls prog 193 #[.slice s.ms.a s.ms.n s.ms.c,.func (.func f) #[] caps] w λe w'=>e = .returned (.slice (eu s.ms bad).a (eu s.ms bad).n (eu s.ms bad).c)/\ah A w' (withMoves s (eu s.ms bad))/\Below A w w'/\(∀q t m g,t≠110->Blk w q t m g->Blk w' q t m g)/\KeepsOthers w w':=by
 obtain⟨h1,k,v,F⟩:=o.ms;by_cases H:s.ms.n=0
 .have hd:(eu s.ms bad).n=0:=by have:=C7 s.ms bad;omega
  rw[H,hd];refine(ahl f caps bad s.ms.a s.ms.c w k u (λx w1 b=>D x w1 (b.mono i))).mono ?_;rintro e w1 ⟨rfl,b⟩;have O:=o.below b;exact⟨rfl,⟨O.on,O.rows,O.rapart,O.os,O.hs,⟨by show(eu s.ms bad).n<=_;rw[hd];exact Qxz _,k,v,λh=>absurd (show 0<(eu s.ms bad).n from h) ow⟩,O.msr,O.si,O.so,O.sf,O.aio,O.aif,O.aof,O.ari⟩,b.mono i,λq t m g _ hb=>hb.below b,Vm b⟩
 obtain⟨g,r,hA,hb⟩:=F ow;have d:Blk w g 110 ((i6 s.ms).length*4) (hc λj=>(i6 s.ms).getD j hd0):=abs;have y:=ahk f caps bad A g s.ms.c (i6 s.ms) w hA i aaj k d u D;rw[uk] at y;rw[r];refine y.mono ?_;rintro e w1 ⟨rfl,B,b,l⟩;have G:=C7 s.ms bad;exact⟨by show _=Ending.returned (.slice s.ms.a _ _);rw[r];rfl,o.keepM d l.1 ⟨Qzx G h1,k,v,λ_=>⟨g,r,hA,B.congr λq hq=>(Cb (z:=(eu s.ms bad).z) hq).symm⟩⟩ (o.msr.keepMv l),b,λq t m J E p=>l.1.blk p (Blk.ne2 p d E),Vn d l.1⟩
def aw9(x:St)(b g:Int)(r:Nat)(j:Nat):Value:=(#[.slice x.on.a x.on.n x.on.c,.slice x.os.a x.os.n x.os.c,.slice x.hs.a x.hs.n x.hs.c,.slice x.ms.a x.ms.n x.ms.c,.slice x.si.a x.si.n x.si.c,.slice x.so.a x.so.n x.so.c,.slice x.sf.a x.sf.n x.sf.c,.int .i64 b,.int .i64 g,.map (some r)]:Array Value).getD j default
theorem ah.boxC(h:ah A w s)(hq:Blk w q 185 n f)(j:Nat)(u:Value):ah A (w.setCell ⟨q,j,none⟩ u) s:=Tf
theorem lx.keeps{q:Int->Int->Int}(h:lx w r q)(k:KeepsOthers w w'):lx w' r q:=by
 obtain⟨a,c,b,d⟩:=h;exact⟨a,c,k.same r _ b rfl,d⟩
theorem Blk.keepR{q:Int->Int->Int}(h:Blk w g t n f)(m:lx w r q)(k:ta r w w'):Blk w' g t n f:=by
 obtain⟨cur,a,b⟩:=h;refine Blk.same ⟨cur,a,b⟩ (k.block g λe => ?_);obtain⟨i,c,d,-⟩:=m;rw[e,d] at a;cases a
theorem ta.ck{q:Int->Int->Int}(m:lx w r q)(k:ta r w w'):km w w':=⟨by rw[k.size];exact Nat.le_refl _,λg cur e z a=>k.block g λb=>by
 obtain⟨f,c,d,-⟩:=m;rw[b,d] at a;cases a⟩
structure iq(A BC r:Nat)(W0:World)(x:St)(b g:Int)(q:Int->Int->Int)(wk:World):Prop where
 own:ah A wk x
 box:Blk wk BC 185 10 (aw9 x b g r)
 map:lx wk r q
 bel:Bw W0 wk
 le:A<=wk.heap.size
 w0:W0.heap.size<=A
 bc:A<=BC
 ra:A<=r
section
variable {A BC r:Nat} {W0 wk wj:World} {x:St} {b g:Int} {q:Int->Int->Int}
theorem iq.below(h:iq A BC r W0 x b g q wk)(a:Bw wk wj):iq A BC r W0 x b g q wj :=
 ⟨ah.below h.own a,h.box.below a,h.map.below a,h.bel.trans (a.mono h.bel.size),Qzx h.le a.size,h.w0,h.bc,h.ra⟩
theorem Blk.noMap{g:Nat}(h:Blk w g t n f){q:Int->Int->Int}(m:lx w r q):r≠g:=λe=>by
 obtain⟨cur,b,i⟩:=h;obtain⟨d,c,a,-⟩:=m;rw[e,b] at a;cases a
def Ee(h:Hs)(i:Nat)(d:Int):Hs:=⟨h.a,h.n,h.c,io h.z i d⟩
theorem ai7{h:Hs}{d:Int}(q:Nat)(a:q<h.n*4):(if q=i*4+3 then Value.int .i64 ((h.z i).n-d) else(ba h.n h.z).getD q default)=(ba h.n (io h.z i d)).getD q default:=by
 rw[R0 (h:=h) (j:=i) (c:=3) (v:=(h.z i).n-d) dc q a];have e:(Bl h i 3 ((h.z i).n-d)).z=io h.z i d:=by
  funext k
  show(if k=i then Lp (h.z k) 3 ((h.z i).n-d) else h.z k)=if k=i then jl (h.z k) d else h.z k;by_cases c:k=i
  .rw[if_pos c,if_pos c,c];rfl
  rw[if_neg c,if_neg c]
 rw[e]
theorem ct.less{h:Hs}(k:ct A t w h){G:Nat}(hi:i<h.n)(c:h.a=some ⟨G,0,none⟩)(d:Int):ct A t (w.setCell ⟨G,i*4+3,none⟩ (.int .i64 ((h.z i).n-d))) (Ee h i d):=by
 obtain⟨e,f,g,j⟩:=k;refine⟨e,f,g,λp => ?_⟩;obtain⟨o,b,hA,l⟩:=j ow;rw[c] at b;simp only[co] at b;subst b;exact⟨G,c,hA,(l.set (i*4+3) _).congr λq m=>ai7 q m⟩
theorem iq.moveN(h:iq A BC r W0 x b g q wk){G:Nat}(hi:i<x.ms.n)(f:x.ms.a=some ⟨G,0,none⟩)(d:Int):iq A BC r W0 (withMoves x (Ee x.ms i d)) b g q (wk.setCell ⟨G,i*4+3,none⟩ (.int .i64 ((x.ms.z i).n-d))):=by
 have k:=h.own.ms;obtain⟨m,o,s,j⟩:=h.own.ms;obtain⟨l,c,hA,e⟩:=j ow;rw[f] at c;simp only[co] at c;subst c;refine⟨h.own.keepM e ((iy.refl G wk).set _ _) (k.less hi f d) (h.own.msr.set G (i*4+3) _),h.box.other (a:=⟨G,i*4+3,none⟩) (Blk.ne2 h.box e dc) _,h.map.set (e.noMap h.map) _,h.bel.setCell (p:=⟨G,i*4+3,none⟩) atd _,A9,h.w0,h.bc,h.ra⟩
theorem iq.holdN(h:iq A BC r W0 x b g q wk){G:Nat}(hi:i<x.hs.n)(f:x.hs.a=some ⟨G,0,none⟩)(d:Int):iq A BC r W0 (withHolds x (Ee x.hs i d)) b g q (wk.setCell ⟨G,i*4+3,none⟩ (.int .i64 ((x.hs.z i).n-d))):=by
 have k:=h.own.hs;obtain⟨m,o,s,j⟩:=h.own.hs;obtain⟨l,c,hA,e⟩:=j ow;rw[f] at c;simp only[co] at c;subst c;refine⟨h.own.keepG e ((iy.refl G wk).set _ _) (k.less hi f d),h.box.other (a:=⟨G,i*4+3,none⟩) (Blk.ne2 h.box e dc) _,h.map.set (e.noMap h.map) _,h.bel.setCell (p:=⟨G,i*4+3,none⟩) atd _,A9,h.w0,h.bc,h.ra⟩
theorem iq.back(h:iq A BC r W0 x b g q wk){o B:Nat}(f:o<x.os.n)(d:(x.os.z o).ls.a=some ⟨B,0,none⟩)(l:Nat)(v:Int):iq A BC r W0 (setLine x o l 3 v) b g q (wk.setCell ⟨B,l*4+3,none⟩ (.int .i64 v)):=by
 obtain⟨B',c,hA,i,j,e⟩:=h.own.os.lines o f;rw[d] at c;simp only[co] at c;subst c;refine⟨h.own.setLine f d l 3 dc v,h.box.other (a:=⟨B,l*4+3,none⟩) (Blk.ne2 h.box e dc) _,h.map.set (e.noMap h.map) _,h.bel.setCell (p:=⟨B,l*4+3,none⟩) (by show W0.heap.size<=B;have:=h.w0;omega) _,A9,h.w0,h.bc,h.ra⟩
theorem iq.store(h:iq A BC r W0 x b g q wk){a:Int->Int->Int}(m:lx wj r a)(k:ta r wk wj):iq A BC r W0 x b g a wj :=
 ⟨h.own.ck (k.ck h.map),h.box.keepR h.map k,m,k.below h.bel (Qzx h.w0 h.ra),by rw[k.size];exact h.le,h.w0,h.bc,h.ra⟩
theorem iq.newMoves(h:iq A BC r W0 x b g q wk){m:Hs}(k:ah A wj (withMoves x m))(hb:Below A wk wj)(i:∀q t n g,t≠110->Blk wk q t n g->Blk wj q t n g)(f:KeepsOthers wk wj):iq A BC r W0 (withMoves x m) b g q (wj.setCell ⟨BC,3,none⟩ (.slice m.a m.n m.c)):=by
 have d:=i _ _ _ _ dc h.box;have e:=h.map.keeps f;have b1:=h.w0;have b2:=h.bc;refine⟨k.boxC d 3 _,(d.set 3 _).congr λj hj => ?_,e.set (d.noMap e) _,(h.bel.trans (hb.mono h.w0)).setCell (p:=⟨BC,3,none⟩) alc _,agy,h.w0,h.bc,h.ra⟩;exact abk
theorem iq.newHolds(h:iq A BC r W0 x b g q wk){m:Hs}(k:ah A wj (withHolds x m))(hb:Below A wk wj)(i:∀q t n g,t≠107->Blk wk q t n g->Blk wj q t n g)(f:KeepsOthers wk wj):iq A BC r W0 (withHolds x m) b g q (wj.setCell ⟨BC,2,none⟩ (.slice m.a m.n m.c)):=by
 have d:=i _ _ _ _ dc h.box;have e:=h.map.keeps f;have b1:=h.w0;have b2:=h.bc;refine⟨k.boxC d 2 _,(d.set 2 _).congr λj hj => ?_,e.set (d.noMap e) _,(h.bel.trans (hb.mono h.w0)).setCell (p:=⟨BC,2,none⟩) alc _,agy,h.w0,h.bc,h.ra⟩;exact abk
theorem iq.boxed(h:iq A BC r W0 x b g q wk):BC<wk.heap.size/\wk.cell? ⟨BC,0,none⟩=some (.slice x.on.a x.on.n x.on.c)/\wk.cell? ⟨BC,1,none⟩=some (.slice x.os.a x.os.n x.os.c)/\wk.cell? ⟨BC,2,none⟩=some (.slice x.hs.a x.hs.n x.hs.c)/\wk.cell? ⟨BC,3,none⟩=some (.slice x.ms.a x.ms.n x.ms.c)/\wk.cell? ⟨BC,4,none⟩=some (.slice x.si.a x.si.n x.si.c)/\wk.cell? ⟨BC,5,none⟩=some (.slice x.so.a x.so.n x.so.c)/\wk.cell? ⟨BC,6,none⟩=some (.slice x.sf.a x.sf.n x.sf.c)/\wk.cell? ⟨BC,7,none⟩=some (.int .i64 b)/\wk.cell? ⟨BC,8,none⟩=some (.int .i64 g)/\wk.cell? ⟨BC,9,none⟩=some (.map (some r)):=
 ⟨h.box.lt,h.box.k 0,h.box.k 1,h.box.k 2,h.box.k 3,h.box.k 4,h.box.k 5,h.box.k 6,h.box.k 7,h.box.k 8,h.box.k 9⟩
end
theorem Yr{p:Nat->Prop}(h:∃n,p n):∃n,p n/\∀m,p m->n<=m:=by
 obtain⟨n,f⟩:=h
 induction n using Nat.strongRecOn with
 | _ n ih =>
  by_cases c:∃m,m<n/\p m
  .obtain⟨m,b,d⟩:=c;exact ih m b d
  exact⟨n,f,λm e=>Nat.le_of_not_lt λa=>c ⟨m,a,e⟩⟩
theorem axd:∃f:(Nat->Prop)->Nat,(∀p:Nat->Prop,(∃n,p n)->p (f p))/\∀(p:Nat->Prop) (n:Nat),p n->f p<=n:=by
 have h:∀p:Nat->Prop,∃m,(∃n,p n)->p m/\∀n,p n->m<=n:=λp=>by
  by_cases c:∃n,p n
  .obtain⟨m,b⟩:=Yr c;exact⟨m,λ_=>b⟩
  exact⟨0,λh=>absurd h c⟩
 exact⟨λp=>Classical.choose (h p),λp d=>(Classical.choose_spec (h p) d).1,λp n a=>(Classical.choose_spec (h p) ⟨n,a⟩).2 n a⟩
section
variable {p:Pl} {s x:St} {b g:Nat} {seen J:Int}
theorem dr.formedJ(h:dr p s b g seen)(a:0<=J):cu p (kw (jn s b g J) b g seen):=by
 have F:=Kc (b:=b) (g:=g) h.r a;have G:=h.right.fm;exact⟨G.sh,G.sh0,F.os4,F.ms8,F.lns,F.kind,F.line,F.hold,F.home,F.move,G.sin,G.son,G.sfn,G.sib,G.sob,G.sfb⟩
theorem p8.formed(h:dr p s b g seen)(a:0<=J)(c:p8 s b g seen J x):cu p x:=af.formed c (h.formedJ a)
theorem p8.boundJ(h:dr p s b g seen)(a:0<=J)(f:J<=pk s b g)(c:p8 s b g seen J x):pk x b g=pk s b g-J:=by
 rw[<-aik h.r a f];unfold pk;rw[af.held c (h.formedJ a),af.from c];have d:ce (kw (jn s b g J) b g seen) b g (kw (jn s b g J) b g seen).hs.n=ce (jn s b g J) b g (jn s b g J).hs.n:=ui (λ_ _=>rfl) (λ_ _=>rfl);have e:bp (kw (jn s b g J) b g seen) b g (kw (jn s b g J) b g seen).ms.n=bp (jn s b g J) b g (jn s b g J).ms.n:=rm (λ_ _=>rfl);rw[d,e]
theorem de.moveN{e:Nat}{W0 c:World}(h:de A e W0 x c)(hA:W0.heap.size<=A){G:Nat}(hi:i<x.ms.n)(f:x.ms.a=some ⟨G,0,none⟩)(d:Int):de A e W0 (withMoves x (Ee x.ms i d)) (c.setCell ⟨G,i*4+3,none⟩ (.int .i64 ((x.ms.z i).n-d))):=by
 have k:=h.own.ms;obtain⟨o,q,r,j⟩:=h.own.ms;obtain⟨m,b,l,g⟩:=j ow;rw[f] at b;simp only[co] at b;subst b;exact⟨h.own.keepM g ((iy.refl G c).set _ _) (k.less hi f d) (h.own.msr.set G (i*4+3) _),h.box.other (a:=⟨G,i*4+3,none⟩) (Blk.ne2 h.box g dc) _,h.bel.setCell (p:=⟨G,i*4+3,none⟩) Jp _,A9⟩
theorem de.holds{e:World}(h:de A b d x e)(f:d.heap.size<=b){m:Hs}(g:ct A 107 e m):de A b d (withHolds x m) (e.setCell ⟨b,2,none⟩ (.slice m.a m.n m.c)):=by
 refine⟨(h.own.withHolds g).box h.box 2 _,(h.box.set 2 _).congr λj hj => ?_,h.bel.setCell (p:=⟨b,2,none⟩) f _,A9⟩;exact abt
theorem de.line{d:Nat}{c g:World}(h:de A d c x g)(hA:c.heap.size<=A){o B:Nat}(f:o<x.os.n)(e:(x.os.z o).ls.a=some ⟨B,0,none⟩)(l:Nat)(v:Int):de A d c (setLine x o l 3 v) (g.setCell ⟨B,l*4+3,none⟩ (.int .i64 v)):=by
 obtain⟨B',b,j,k,m,i⟩:=h.own.os.lines o f;rw[e] at b;simp only[co] at b;subst b;exact⟨h.own.setLine f e l 3 dc v,h.box.other (a:=⟨B,l*4+3,none⟩) (Blk.ne2 h.box i dc) _,h.bel.setCell (p:=⟨B,l*4+3,none⟩) (by show c.heap.size<=B;omega) _,A9⟩
theorem p8.cutQ_move(r:am p s)(h0:0<=J)(h:p8 s b g seen J x){k:Nat}(a:ld (cx b g) x.ms.z x.ms.n=some k):fa s b g (J+1)=fa s b g J:=by
 have s1:=Bi as1 a;rw[h.revM,xz,(wo (uh b g) r.movesP h0).1] at s1;have c:bp s b g s.ms.n=fl (cx b g) (sq s):=xu s b g s.ms.n;have L:i5 s b g (J+1)=i5 s b g J:=anm;unfold fa;rw[L]
theorem ah.boxA{q:Nat}(h:ah A w s)(hq:Blk w q 144 n f)(j:Nat)(u:Value):ah A (w.setCell ⟨q,j,none⟩ u) s:=Tf
theorem de.boxA{d:Nat}{b c:World}{q:Nat}(h:de A d b x c)(e:Blk c q 144 n f)(g:b.heap.size<=q)(j:Nat)(u:Value):de A d b x (c.setCell ⟨q,j,none⟩ u):=
 ⟨h.own.boxA e j u,h.box.other (a:=⟨q,j,none⟩) (Blk.ne2 h.box e dc) u,h.bel.setCell (p:=⟨q,j,none⟩) g u,A9⟩
def zj(q:Int->Int->Int)(j:Nat):Value := .int .i64 (q ((j/3:Nat):Int) ((j%3:Nat):Int))
theorem ad0(q:Int->Int->Int){o:Nat}(a:l<3):zj q (o*3+l) = .int .i64 (q o l):=by
 unfold zj;rw[show(o*3+l)/3=o by omega,show(o*3+l)%3=l by omega]
theorem ae4(r:am p s)(o l:Int):fa s b g 0 o l=0:=by
 have l0:i5 s b g 0=0:=am3;unfold fa;rw[l0];exact Eb _ _ _ r.holdsP
theorem aij{q b:Int->Int->Int}{o:Nat}(f:l<3)(h:∀a d:Int,b a d=q a d+if a=o/\d=l then 1 else 0)(j:Nat):(if j=o*3+l then Value.int .i64 (q o l+1) else zj q j)=zj b j:=by
 unfold zj;rw[h];by_cases e:j=o*3+l
 .rw[if_pos e,if_pos ⟨ow,ow⟩,show j/3=o by omega,show j%3=l by omega]
 rw[if_neg e,if_neg (λc=>e ow),Int.add_zero]
structure CoI(A B7 BC:Nat)(W0:World)(s:St)(b g:Nat)(seen J:Int)(x:St)(wk:World):Prop where
 rel:de A B7 W0 x wk
 cut:Blk wk BC 144 12 (zj (fa s b g J))
 cj:p8 s b g seen J x
 j0:0<=J
 jm:J<=fg s b g seen
theorem CoI.below{a:Nat}{i f:World}(h:CoI A a c d s b g seen J x i)(e:Bw i f):CoI A a c d s b g seen J x f:=⟨h.rel.below e,h.cut.below e,h.cj,h.j0,h.jm⟩
def CoN(A B7 BC:Nat)(W0:World)(s:St)(b g:Nat)(seen:Int)(wk:World)(n:Nat):Prop:=∃(J:Int) (x:St),J=fg s b g seen-n/\CoI A B7 BC W0 s b g seen J x wk
theorem CoI.num{a:Nat}{e:World}(h:CoI A a c d s b g seen J x e):CoN A a c d s b g seen e (fg s b g seen-J).toNat:=⟨J,x,by have:=h.jm;omega,h⟩
end
end Go.Proofs.YtjgckphgagdpaaaGreatDoor
